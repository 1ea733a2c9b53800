package tests

import (
	"runtime"
	"slices"
	"strconv"
	"strings"
	"testing"

	"loop.example/g01270/impl"
)

func TestExampleOfConsole(t *testing.T) {
	script := "falls\nmeetings\ncounts\ncorners 0\nnews 0\nafter 4\nplace 1 2\ndrop 0\nways\nword rrll\nstep\nrest\nrod 3:\ndrop 9\nfly\n"
	replies := []string{"10,16,18,14", "4", "1,3,3,1", "0,2,4,6,10,0", "0,4,7,x", "20:l6r6r10l12", "8", "20:r6r10l12", "rrl", "rrll", "rlrl", "2", "what", "no", "what"}
	wantList(t, "RunScript", replies)(impl.RunScript(script))
	wantList(t, "FailedLines", []int{13, 14, 15})(impl.FailedLines(script))
	if d, ok := impl.DeskAfter(script); !ok || !sameDesk(d, deskOf(t, "20:r6r10l12", "rlrl")) {
		t.Error("DeskAfter", textOfDesk(d), ok)
	}
}

func TestFirstDesk(t *testing.T) {
	want := impl.Desk{Rod: impl.Rod{Length: 20, Ants: antsOf(2, 1, 6, 1, 10, -1, 16, -1)}, Word: "rl"}
	if d := impl.FirstDesk(); !sameDesk(d, want) || !impl.IsDesk(d) {
		t.Error("FirstDesk", textOfDesk(d))
	}
}

func TestIsDeskByItsRodAndWord(t *testing.T) {
	words := slices.Concat([]string{"", "l", "rl"}, longWords())
	for _, d := range manyDesks() {
		if !impl.IsDesk(d) {
			t.Fatal("no desk:", textOfDesk(d))
		}
	}
	for _, w := range words {
		for _, r := range noRods() {
			if impl.IsDesk(impl.Desk{Rod: r, Word: w}) {
				t.Fatal("a desk:", r, w)
			}
		}
	}
	for _, w := range noWords() {
		for _, r := range append(noRods(), mustRod(t, "2:"), mustRod(t, "10:r2l6r8"), crowdedRod()) {
			if impl.IsDesk(impl.Desk{Rod: r, Word: w}) {
				t.Fatal("a desk:", r, w)
			}
		}
	}
}

// checkChanges looks that lines have a RodText, or a Word, as their replies and behind them.
func checkChanges(t *testing.T, d impl.Desk, rods, words map[string]string) {
	t.Helper()
	for line, rod := range rods {
		wantLine(t, d, line, deskOf(t, rod, d.Word), rod)
	}
	for line, word := range words {
		reply := word
		if word == "" {
			reply = "-"
		}
		wantLine(t, d, line, impl.Desk{Rod: d.Rod, Word: word}, reply)
	}
}

// checkAnswers looks that lines have replies and change nothing.
func checkAnswers(t *testing.T, d impl.Desk, replies map[string]string) {
	t.Helper()
	for line, reply := range replies {
		wantLine(t, d, line, d, reply)
	}
}

func TestEachLineByHand(t *testing.T) {
	d := deskOf(t, "10:r2l6r8", "rrll")
	checkChanges(t, d, map[string]string{
		"rod 6:l2r4": "6:l2r4", "rod 2:": "2:", "rod 1000:r0l1000": "1000:r0l1000", "rod 10:r2l6r8": "10:r2l6r8",
		"after 0": "10:r2l6r8", "after 2": "10:l4r4", "after 4": "10:l2r6", "after 6": "10:r8", "after 8": "10:", "after 2000": "10:",
		"mirror": "10:l2r4l8", "turn": "10:l2r6l8",
		"add l4": "10:r2l4l6r8", "add r4": "10:r2r4l6r8", "add l2": "10:l2r2l6r8", "add r6": "10:r2l6r6r8", "add l0": "10:l0r2l6r8", "add r10": "10:r2l6r8r10",
		"drop 0": "10:l6r8", "drop 1": "10:r2r8", "drop 2": "10:r2l6",
	}, map[string]string{
		"word lr": "lr", "word ": "", "word l": "l", "word rrll": "rrll", "word rrrrrrrrrrrrrr": "rrrrrrrrrrrrrr", "word lrlrlrlrlrlrlr": "lrlrlrlrlrlrlr", "step": "rlrl",
	})
	checkAnswers(t, d, map[string]string{
		"show": "10:r2l6r8", "say": "rrll", "falls": "6,8,2", "last": "8", "ends": "1,2", "meetings": "1", "counts": "1,1,0", "ways": "rlr", "rest": "3", "rank": "5",
		"place 0 0": "2", "place 0 2": "4", "place 0 4": "2", "place 1 2": "4", "place 1 6": "8", "place 2 0": "8",
		"corners 0": "0,2,2,4,6,0", "corners 1": "0,6,2,4,8,10", "corners 2": "0,8,2,10", "news 0": "0,2,x", "news 1": "2,0,x", "news 2": "x,x,0",
	})
}

func TestLinesThatFailSayNo(t *testing.T) {
	d := deskOf(t, "10:r2l6r8", "rrll")
	for _, line := range []string{
		"after 1", "after 3", "after 2001", "after 2002", "after 999998", "after 999999",
		"add r2", "add l6", "add l3", "add r11", "add r12", "add l999999", "add r999999", "drop 3", "drop 4", "drop 999999",
		"place 3 0", "place 999999 0", "place 0 1", "place 0 2002", "place 0 999999", "place 999999 999999", "place 0 6", "place 1 8", "place 2 2", "place 2 2000",
		"corners 3", "corners 999999", "news 3", "news 16", "news 999999",
		"word x", "word L", "word RL", "word lx", "word 0", "word -", "word no", "word \t", "word l\r", "word l\x00", "word é", "word lé", "word \xff", "word lll\u00a0lll", "word lllllllllllllll", "word rlrlrlrlrlrlrlr",
	} {
		wantLine(t, d, line, d, "no")
	}
}

func TestEmptyWordsOnTheDesk(t *testing.T) {
	d := deskOf(t, "10:r2l6r8", "")
	checkAnswers(t, d, map[string]string{"say": "-", "step": "-", "word ": "-", "rest": "0", "rank": "0", "word": "what", "word  ": "what", "word -": "no"})
	script := "say\nword \nsay\nstep\nrest\nrank\nword rl\nword \n"
	wantList(t, "RunScript", []string{"rl", "-", "-", "-", "0", "0", "rl", "-"})(impl.RunScript(script))
	wantList(t, "FailedLines", []int{})(impl.FailedLines(script))
	if d, ok := impl.DeskAfter(script); !ok || !sameDesk(d, deskOf(t, "20:r2r6l10l16", "")) {
		t.Error("DeskAfter", textOfDesk(d), ok)
	}
}

func TestDesksWithNoAnts(t *testing.T) {
	d := deskOf(t, "2:", "rl")
	checkAnswers(t, d, map[string]string{
		"show": "2:", "falls": "-", "counts": "-", "ways": "-", "last": "0", "ends": "0,0", "meetings": "0", "mirror": "2:", "turn": "2:", "after 0": "2:", "after 2000": "2:",
		"corners 0": "no", "news 0": "no", "place 0 0": "no", "drop 0": "no", "add l4": "no",
	})
	checkChanges(t, d, map[string]string{"add l0": "2:l0", "add r2": "2:r2"}, nil)
}

func TestDesksWithOneAnt(t *testing.T) {
	d := deskOf(t, "10:r2", "r")
	checkAnswers(t, d, map[string]string{
		"falls": "8", "counts": "0", "ways": "r", "last": "8", "ends": "0,1", "meetings": "0", "corners 0": "0,2,8,10", "news 0": "0", "place 0 6": "8", "place 0 8": "no", "rest": "0", "rank": "0", "corners 1": "no", "news 1": "no", "drop 1": "no",
	})
	checkChanges(t, d, map[string]string{"drop 0": "10:", "mirror": "10:l8", "turn": "10:l2", "after 6": "10:r8", "after 8": "10:"}, map[string]string{"step": "r"})
}

func TestDesksWithTheMostAnts(t *testing.T) {
	d := impl.Desk{Rod: crowdedRod(), Word: "rrrrrrrlllllll"}
	checkAnswers(t, d, map[string]string{
		"meetings": "64", "ends": "8,8", "ways": "rrrrrrrrllllllll", "counts": "1,3,5,7,9,11,13,15,15,13,11,9,7,5,3,1", "last": "1000", "show": textOf(d.Rod), "rest": "13", "rank": "3431",
		"falls": "986,988,990,992,994,996,998,1000,1000,998,996,994,992,990,988,986", "place 7 998": "2", "place 0 986": "no", "add r500": "no", "add l500": "no", "add r999999": "no", "drop 16": "no", "news 16": "no",
		"corners 0": "0,0,493,493,986,0", "corners 15": "0,1000,493,507,986,1000", "news 0": "0,493,494,495,496,497,498,499,500,x,x,x,x,x,x,x",
	})
	rods := map[string]string{"after 998": "1000:l2r998", "after 1000": "1000:", "turn": strings.NewReplacer("l", "r", "r", "l").Replace(textOf(d.Rod)), "mirror": textOf(d.Rod)}
	rods["drop 15"] = strings.TrimSuffix(textOf(d.Rod), "l1000")
	checkChanges(t, d, rods, nil)
	script := "rod " + rods["drop 15"] + "\nadd l1000\nadd r1000\n"
	wantList(t, "RunScript", []string{rods["drop 15"], textOf(d.Rod), "no"})(impl.RunScript(script))
}

func TestAntsThatFallOrHaveFallen(t *testing.T) {
	d := deskOf(t, "10:l0r10", "")
	checkAnswers(t, d, map[string]string{
		"falls": "0,0", "last": "0", "ends": "1,1", "meetings": "0", "counts": "0,0", "ways": "lr", "corners 0": "0,0", "corners 1": "0,10", "place 0 0": "no", "place 1 0": "no", "news 0": "0,x", "news 1": "x,0",
	})
	checkChanges(t, d, map[string]string{"after 0": "10:", "mirror": "10:l0r10", "turn": "10:r0l10", "add r0": "10:l0r0r10"}, nil)
	both := deskOf(t, "10:l0r0l10r10", "")
	checkChanges(t, both, map[string]string{"after 0": "10:r0l10", "turn": "10:l0r0l10r10"}, nil)
	// The ant 2 has fallen behind 2, and so the others are told anew.
	script := "rod 10:r2l6r8\nafter 2\nplace 2 0\nplace 1 0\nplace 1 4\nplace 1 6\nafter 6\nfalls\ndrop 0\n"
	wantList(t, "RunScript", []string{"10:r2l6r8", "10:l4r4", "no", "4", "8", "no", "10:", "-", "no"})(impl.RunScript(script))
}

// Ants that never hear some news are told with x, whichever numbers are beside them.
func TestNewsThatIsNeverHeard(t *testing.T) {
	d := deskOf(t, "100:l10r22l24l30r80", "")
	checkAnswers(t, d, map[string]string{"news 0": "0,x,x,x,x", "news 1": "x,0,1,4,x", "news 2": "x,1,0,4,x", "news 3": "x,x,4,0,x", "news 4": "x,x,x,x,0"})
}

func TestLinesDoWhatTheirCallsDo(t *testing.T) {
	good := goodLines()
	for i, d := range manyDesks() {
		for j, line := range good {
			if i%4 == j%4 {
				checkLine(t, d, line)
			}
		}
		if t.Failed() {
			t.Fatal(textOfDesk(d))
		}
	}
	for _, d := range someDesks(t) {
		for _, line := range good {
			checkLine(t, d, line)
			if _, reply, _ := impl.DeskLine(d, line); reply == "what" {
				t.Errorf("%q is not known", line)
			}
		}
	}
}

func TestLinesWithoutAFormSayWhat(t *testing.T) {
	for _, d := range someDesks(t) {
		for _, line := range linesWithout() {
			wantLine(t, d, line, d, "what")
			checkLine(t, d, line)
		}
	}
}

func TestLinesWithOneSignChanged(t *testing.T) {
	d := deskOf(t, "10:r2l6r8", "rrll")
	for _, line := range []string{
		"mirror", "turn", "step", "show", "say", "falls", "last", "ends", "meetings", "counts", "ways", "rest", "rank", "rod 10:l4r4", "after 4", "after 100", "add l4", "add r10", "drop 1", "drop 10", "word rl", "word ", "word rlrlrlrlrlrlrl", "place 1 2", "place 0 10", "corners 1", "news 2",
	} {
		for _, changed := range withOneSignChanged(line, "0123456789:lrstw-+ xLRW\t\x00é") {
			checkLine(t, d, changed)
		}
	}
}

func TestNumbersInLines(t *testing.T) {
	d := deskOf(t, "1000:r0r2l4l6r998", "rl")
	for _, name := range []string{"after N", "drop N", "corners N", "news N", "add lN", "add rN", "place N 0", "place 0 N", "place N 999999", "place 999999 N"} {
		for _, number := range badNumbers() {
			wantLine(t, d, strings.Replace(name, "N", number, 1), d, "what")
		}
		for n := range 1100 {
			line := strings.Replace(name, "N", strconv.Itoa(n), 1)
			checkLine(t, d, line)
			if _, reply, _ := impl.DeskLine(d, line); reply == "what" {
				t.Fatalf("%q is not known", line)
			}
		}
		for _, n := range []string{"9999", "10000", "32768", "65536", "99999", "100000", "131072", "999998", "999999"} {
			wantLine(t, d, strings.Replace(name, "N", n, 1), d, "no")
		}
	}
}

func TestWordsOfLinesAreCounted(t *testing.T) {
	d := deskOf(t, "10:r2l6r8", "rrll")
	alone := []string{"mirror", "turn", "step", "show", "say", "falls", "last", "ends", "meetings", "counts", "ways", "rest", "rank"}
	withOne := map[string][]string{"rod": {"2:", "10:r2"}, "after": {"0", "2"}, "add": {"l4", "r4"}, "drop": {"0", "1"}, "word": {"l", ""}, "corners": {"0", "1"}, "news": {"0", "1"}}
	for _, name := range alone {
		checkLine(t, d, name)
		for _, more := range []string{"", "0", "l", "2:", "l4", " ", "0 0", "  "} {
			wantLine(t, d, name+" "+more, d, "what")
		}
	}
	for name, words := range withOne {
		wantLine(t, d, name, d, "what")
		for _, word := range words {
			if _, reply, ok := impl.DeskLine(d, name+" "+word); !ok || reply == "what" || reply == "no" {
				t.Error(name, word, reply, ok)
			}
			for _, line := range []string{name + "  " + word, " " + name + " " + word, name + " " + word + " ", name + " " + word + " " + word, name + " " + word + " " + word + " " + word} {
				wantLine(t, d, line, d, "what")
			}
		}
	}
	for n, line := range []string{"place", "place 0", "place 0 0", "place 0 0 0", "place 0 0 0 0"} {
		reply := "what"
		if n == 2 {
			reply = "2"
		}
		wantLine(t, d, line, d, reply)
	}
}

// checkScript looks that a script does the same as its lines do, one behind the other.
func checkScript(t *testing.T, s string) {
	t.Helper()
	d := impl.FirstDesk()
	var replies []string
	var failed []int
	number := 0
	for line := range strings.Lines(s) {
		number++
		behind, reply, ok := impl.DeskLine(d, strings.TrimSuffix(line, "\n"))
		if !ok {
			t.Fatalf("%q on %s fails", line, textOfDesk(d))
		}
		if reply == "no" || reply == "what" {
			failed = append(failed, number)
			if !sameDesk(behind, d) {
				t.Fatalf("%q is answered with %s, but changes %s to %s", line, reply, textOfDesk(d), textOfDesk(behind))
			}
		}
		d = behind
		if !impl.IsDesk(d) {
			t.Fatalf("there is no desk behind %q: %s", line, textOfDesk(d))
		}
		replies = append(replies, reply)
	}
	wantList(t, "RunScript", replies)(impl.RunScript(s))
	wantList(t, "FailedLines", failed)(impl.FailedLines(s))
	if got, ok := impl.DeskAfter(s); !ok || !sameDesk(got, d) {
		t.Errorf("DeskAfter: %s, %v, not %s", textOfDesk(got), ok, textOfDesk(d))
	}
	if t.Failed() {
		t.Fatalf("the script is %.300q", s)
	}
}

func TestScriptsDoWhatTheirLinesDo(t *testing.T) {
	thrown := dice(29)
	good, bad := goodLines(), linesWithout()
	for i := range 1500 {
		checkScript(t, thrown.thrownScript(good, bad, i%(impl.MaxLines+1)))
	}
	for _, line := range slices.Concat(good, bad) {
		checkScript(t, line+"\n")
		if len(line) < 1000 {
			checkScript(t, "rod 10:r2l6r8\n"+line+"\n"+line+"\nshow\nsay\n")
		}
	}
}

// The lines of a script are executed on what the lines before have left.
func TestDesksGoOnFromLineToLine(t *testing.T) {
	script := "rod 10:\nadd r2\nadd l6\nadd r8\nadd r8\nshow\nafter 2\nturn\nmirror\ndrop 1\nafter 1\nword rrll\nstep\nstep\nsay\nword x\nsay\nstep\nstep\nrank\n"
	replies := []string{"10:", "10:r2", "10:r2l6", "10:r2l6r8", "no", "10:r2l6r8", "10:l4r4", "10:l4r4", "10:l6r6", "10:l6", "no", "rrll", "rlrl", "lrlr", "lrlr", "no", "lrlr", "llrr", "llrr", "0"}
	wantList(t, "RunScript", replies)(impl.RunScript(script))
	wantList(t, "FailedLines", []int{5, 11, 16})(impl.FailedLines(script))
	if d, ok := impl.DeskAfter(script); !ok || !sameDesk(d, deskOf(t, "10:l6", "llrr")) {
		t.Error("DeskAfter", textOfDesk(d), ok)
	}
	checkScript(t, script)
}

func TestEmptyScript(t *testing.T) {
	wantList(t, "RunScript", []string{})(impl.RunScript(""))
	wantList(t, "FailedLines", []int{})(impl.FailedLines(""))
	if d, ok := impl.DeskAfter(""); !ok || !sameDesk(d, impl.FirstDesk()) {
		t.Error("DeskAfter", textOfDesk(d), ok)
	}
}

func TestEmptyLinesAndWords(t *testing.T) {
	script := "\n\nshow\n\n \n show\nshow \nplace  0\nplace 0 \n"
	wantList(t, "RunScript", []string{"what", "what", "20:r2r6l10l16", "what", "what", "what", "what", "what", "what"})(impl.RunScript(script))
	wantList(t, "FailedLines", []int{1, 2, 4, 5, 6, 7, 8, 9})(impl.FailedLines(script))
	checkScript(t, script)
	wantList(t, "RunScript", []string{"what"})(impl.RunScript("\n"))
	wantList(t, "RunScript of other ends of lines", []string{"what", "what"})(impl.RunScript("show\r\n\r\n"))
}

// limitScripts returns scripts of so many lines and bytes, of which the last line is as long as needed.
func limitScripts(lines, size int) []string {
	var list []string
	for _, line := range []string{"", "show", "word ", "fly", "drop 0"} {
		s := strings.Repeat(line+"\n", lines-1)
		for _, last := range []string{" ", "l", "word l"} {
			if rest := size - len(s) - len(last) - 1; rest >= 0 {
				list = append(list, s+last+strings.Repeat(last[:1], rest)+"\n")
			}
		}
		if rest := size - len(s) - len("word \n"); rest >= 0 {
			list = append(list, s+"word "+strings.Repeat("l", rest)+"\n")
		}
	}
	return list
}

func TestScriptsAtTheirLimits(t *testing.T) {
	for _, lines := range []int{1, 2, 49, impl.MaxLines} {
		for _, size := range []int{2999, impl.MaxScript} {
			for _, s := range limitScripts(lines, size) {
				if len(s) != size || strings.Count(s, "\n") != lines {
					t.Fatalf("%d bytes of %q", len(s), s)
				}
				checkScript(t, s)
			}
		}
	}
	for _, line := range []string{"", "show", "fly", "word "} {
		s := strings.Repeat(line+"\n", impl.MaxLines)
		checkScript(t, s)
		if list, ok := impl.RunScript(s); !ok || len(list) != impl.MaxLines {
			t.Error("RunScript of the most lines", list, ok)
		}
	}
	all := make([]int, 0, impl.MaxLines)
	for k := range impl.MaxLines {
		all = append(all, k+1)
	}
	wantList(t, "FailedLines of the most lines", all)(impl.FailedLines(strings.Repeat("\n", impl.MaxLines)))
	wantList(t, "FailedLines of the longest script", []int{1})(impl.FailedLines(strings.Repeat("x", impl.MaxScript-1) + "\n"))
}

func TestLinesAtTheirLimit(t *testing.T) {
	for _, d := range someDesks(t) {
		for _, size := range []int{15, 16, 100, 2998, 2999, impl.MaxScript} {
			for start, reply := range map[string]string{"word l": "no", "word x": "no", "word \t": "no", "word l ": "what", "show ": "what", "place 0 0": "what", "after 0": "what", "drop 1": "what", "rod 2:": "what", "rod 10:l2": "what", "add r2": "what", "": "what", " ": "what", "x": "what", "\xff": "what"} {
				line := start + strings.Repeat("l", size)[len(start):]
				if len(line) > 19 {
					wantLine(t, d, line, d, reply)
				}
			}
			for _, sign := range []string{" ", "0", "9", "l", ":", "\t", "\x00", "\r", "\xff"} {
				wantLine(t, d, strings.Repeat(sign, size), d, "what")
				wantLine(t, d, "after "+strings.Repeat(sign, size)[6:], d, "what")
				wantLine(t, d, "rod "+strings.Repeat(sign, size)[4:], d, "what")
			}
		}
	}
}

// No script leaves behind anybody that still sends news.
func TestScriptsLeaveNobodyBehind(t *testing.T) {
	before := runtime.NumGoroutine()
	s := "rod " + textOf(crowdedRod()) + "\n" + strings.Repeat("news 0\nnews 15\nnews 16\n", 16)
	for range 50 {
		if list, ok := impl.RunScript(s); !ok || len(list) != 49 {
			t.Fatal("RunScript", list, ok)
		}
	}
	waitForGoroutines(t, before)
}
