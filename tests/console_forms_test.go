package tests

import (
	"fmt"
	"regexp"
	"slices"
	"strconv"
	"strings"
	"testing"

	"loop.example/g01270/impl"
)

// lineForm is a kind of lines: what they look like, and what the call that they name does on a
// desk with the parts of such a line: the desk and the reply behind it, and whether it succeeds.
type lineForm struct {
	form *regexp.Regexp
	call func(d impl.Desk, parts []string) (impl.Desk, string, bool)
}

// formOf returns a form of whole lines. In it N is a number, A an ant and W any text without a blank.
func formOf(form string) *regexp.Regexp {
	const number = `(0|[1-9][0-9]{0,5})`
	return regexp.MustCompile(`\A` + strings.NewReplacer("N", number, "A", `([lr])`+number, "W", `([^ ]*)`).Replace(form) + `\z`)
}

func partNumber(part string) int {
	n, _ := strconv.Atoi(part)
	return n
}

// toldNumbers returns numbers as replies tell them.
func toldNumbers(numbers ...int) string {
	text := strings.ReplaceAll(strings.Trim(fmt.Sprint(numbers), "[]"), " ", ",")
	return toldText(text)
}

func toldText(text string) string {
	if text == "" {
		return "-"
	}
	return text
}

func toldNews(times []int) string {
	var told []string
	for _, time := range times {
		if time == -1 {
			told = append(told, "x")
		} else {
			told = append(told, strconv.Itoa(time))
		}
	}
	return strings.Join(told, ",")
}

// changingRod is a call that makes another Rod of it.
func changingRod(form string, call func(r impl.Rod, parts []string) (impl.Rod, bool)) lineForm {
	return lineForm{formOf(form), func(d impl.Desk, parts []string) (impl.Desk, string, bool) {
		r, ok := call(d.Rod, parts)
		return impl.Desk{Rod: r, Word: d.Word}, textOf(r), ok
	}}
}

// changingWord is a call that makes another Word of it.
func changingWord(form string, call func(w string, parts []string) (string, bool)) lineForm {
	return lineForm{formOf(form), func(d impl.Desk, parts []string) (impl.Desk, string, bool) {
		w, ok := call(d.Word, parts)
		return impl.Desk{Rod: d.Rod, Word: w}, toldText(w), ok
	}}
}

// asking is a call that leaves the desk as it is.
func asking(form string, call func(d impl.Desk, parts []string) (string, bool)) lineForm {
	return lineForm{formOf(form), func(d impl.Desk, parts []string) (impl.Desk, string, bool) {
		reply, ok := call(d, parts)
		return d, reply, ok
	}}
}

func askingNumber(form string, call func(d impl.Desk, parts []string) (int, bool)) lineForm {
	return asking(form, func(d impl.Desk, parts []string) (string, bool) {
		n, ok := call(d, parts)
		return toldNumbers(n), ok
	})
}

func askingList(form string, call func(d impl.Desk, parts []string) ([]int, bool)) lineForm {
	return asking(form, func(d impl.Desk, parts []string) (string, bool) {
		list, ok := call(d, parts)
		return toldNumbers(list...), ok
	})
}

// lineForms are all kinds of lines that are not answered with what.
var lineForms = []lineForm{
	changingRod("after N", func(r impl.Rod, parts []string) (impl.Rod, bool) { return impl.RodAfter(r, partNumber(parts[1])) }),
	changingRod("mirror", func(r impl.Rod, _ []string) (impl.Rod, bool) { return impl.MirrorRod(r) }),
	changingRod("turn", func(r impl.Rod, _ []string) (impl.Rod, bool) { return impl.TurnWays(r) }),
	changingRod("add A", func(r impl.Rod, parts []string) (impl.Rod, bool) {
		return impl.AddAnt(r, antAt(partNumber(parts[2]), strings.Index("l.r", parts[1])-1))
	}),
	changingRod("drop N", func(r impl.Rod, parts []string) (impl.Rod, bool) { return impl.DropAnt(r, partNumber(parts[1])) }),
	changingWord("word W", func(_ string, parts []string) (string, bool) { return parts[1], impl.IsWord(parts[1]) }),
	changingWord("step", func(w string, _ []string) (string, bool) { return impl.StepWord(w) }),
	asking("show", func(d impl.Desk, _ []string) (string, bool) { return impl.RodText(d.Rod) }),
	asking("say", func(d impl.Desk, _ []string) (string, bool) { return toldText(d.Word), true }),
	askingList("falls", func(d impl.Desk, _ []string) ([]int, bool) { return impl.FallTimes(d.Rod) }),
	askingNumber("last", func(d impl.Desk, _ []string) (int, bool) { return impl.LastFall(d.Rod) }),
	askingNumber("place N N", func(d impl.Desk, parts []string) (int, bool) {
		return impl.PlaceAfter(d.Rod, partNumber(parts[1]), partNumber(parts[2]))
	}),
	askingList("ends", func(d impl.Desk, _ []string) ([]int, bool) {
		left, right, ok := impl.CountFalls(d.Rod)
		return []int{left, right}, ok
	}),
	askingNumber("meetings", func(d impl.Desk, _ []string) (int, bool) { return impl.CountMeetings(d.Rod) }),
	askingList("counts", func(d impl.Desk, _ []string) ([]int, bool) { return impl.CountOfAnts(d.Rod) }),
	askingList("corners N", func(d impl.Desk, parts []string) ([]int, bool) {
		corners, ok := impl.CornersOf(d.Rod, partNumber(parts[1]))
		return slices.Concat(corners...), ok
	}),
	asking("news N", func(d impl.Desk, parts []string) (string, bool) {
		times, ok := impl.NewsTimes(d.Rod, partNumber(parts[1]))
		return toldNews(times), ok
	}),
	asking("ways", func(d impl.Desk, _ []string) (string, bool) {
		ways, ok := impl.WaysOf(d.Rod)
		return toldText(ways), ok
	}),
	askingNumber("rest", func(d impl.Desk, _ []string) (int, bool) { return impl.StepsToRest(d.Word) }),
	askingNumber("rank", func(d impl.Desk, _ []string) (int, bool) { return impl.RankOfWord(d.Word) }),
}

var rodLine = formOf("rod W")

// lineByForms says the same as DeskLine: what the call does whose form a line has.
func lineByForms(d impl.Desk, line string) (impl.Desk, string) {
	if parts := rodLine.FindStringSubmatch(line); parts != nil && isRodTextByForm(parts[1]) {
		r, _ := impl.ParseRod(parts[1])
		return impl.Desk{Rod: r, Word: d.Word}, parts[1]
	}
	for _, f := range lineForms {
		parts := f.form.FindStringSubmatch(line)
		if parts == nil {
			continue
		}
		if behind, reply, ok := f.call(d, parts); ok {
			return behind, reply
		}
		return d, "no"
	}
	return d, "what"
}

func sameDesk(a, b impl.Desk) bool { return sameRod(a.Rod, b.Rod) && a.Word == b.Word }

func textOfDesk(d impl.Desk) string { return fmt.Sprintf("%s %q", textOf(d.Rod), d.Word) }

func deskOf(t *testing.T, rod string, word string) impl.Desk {
	t.Helper()
	return impl.Desk{Rod: mustRod(t, rod), Word: word}
}

// wantLine looks that a line succeeds with a desk and a reply.
func wantLine(t *testing.T, d impl.Desk, line string, behind impl.Desk, reply string) {
	t.Helper()
	got, said, ok := impl.DeskLine(d, line)
	if !ok || said != reply || !sameDesk(got, behind) {
		t.Errorf("%.60q on %s: %s and %q, %v, not %s and %q", line, textOfDesk(d), textOfDesk(got), said, ok, textOfDesk(behind), reply)
	}
}

// checkLine looks that a line does what its form says.
func checkLine(t *testing.T, d impl.Desk, line string) {
	t.Helper()
	behind, reply := lineByForms(d, line)
	wantLine(t, d, line, behind, reply)
}

// goodLines returns lines that have a form, whether their calls succeed or not.
func goodLines() []string {
	lines := []string{"mirror", "turn", "step", "show", "say", "falls", "last", "ends", "meetings", "counts", "ways", "rest", "rank"}
	for _, s := range []string{"2:", "1000:", "2:l0", "2:l0r2", "10:r2l6r8", "10:l0r0l10r10", "10:l4r4", "1000:r0l1000", "20:r2r6l10l16", textOf(crowdedRod())} {
		lines = append(lines, "rod "+s)
	}
	for _, n := range []int{0, 1, 2, 3, 4, 8, 10, 15, 16, 17, 500, 998, 1000, 1999, 2000, 2001, 2002, 65536, 999998, 999999} {
		number := strconv.Itoa(n)
		for _, name := range []string{"after ", "drop ", "corners ", "news ", "add l", "add r", "place 0 ", "place 1 ", "place 15 ", "place 999999 "} {
			lines = append(lines, name+number)
		}
		lines = append(lines, "place "+number+" 0", "place "+number+" 999999")
	}
	for _, w := range []string{"", "l", "r", "lr", "rl", "rrll", "lrrl", "llllllllllllll", "rrrrrrrlllllll", "rrrrrrrrrrrrrr"} {
		lines = append(lines, "word "+w)
	}
	for _, w := range noWords() {
		if !strings.ContainsAny(w, " \n") && len(w) <= 100 {
			lines = append(lines, "word "+w)
		}
	}
	return lines
}

// badNumbers returns texts without a blank or a newline that are no numbers of a line.
func badNumbers() []string {
	return []string{
		"", "00", "01", "02", "000", "007", "0000001", "0999999", "+0", "+1", "+2", "-0", "-1", "-2", "--1", "+", "-", "1000000", "1000001", "9999999", "10000000", "4294967296", "4294967298", "9223372036854775807", "9223372036854775808",
		"-9223372036854775808", "-9223372036854775809", "18446744073709551615", "18446744073709551616", "18446744073709551618", "340282366920938463463374607431768211456", "1e1", "0x1", "0b1", "0o1", "1_0", "1.0", "1.", ".1", "1,", "1,2", "1:", "x", "N", "l1", "r", "1l", "zero",
		"\t1", "1\t", "1\r", "\x00", "1\x00", "\x001", "\v1", "1\f", "\xa01", "1\u00a0", "\u20031", "٢", "１", "²", "½", "\xff", "2\xff", "\xef\xbb\xbf2", strings.Repeat("0", 100), strings.Repeat("9", 100), strings.Repeat("1", 1000), strings.Repeat("0", 1000) + "2",
	}
}

// linesWithout returns lines that are answered with what, as they have no form.
func linesWithout() []string {
	lines := []string{
		"", " ", "  ", "   ", "    ", "\t", "\r", "\x00", "\v", "x", "fly", "no", "what", "-", "0", "1 2", "20:r2r6l10l16", "rl", "é", "\xff", "\xef\xbb\xbfshow", "show\ufeff", "shoW", "ｓhow", "showé", "sh\xffow", "sh\u043ew",
		"Show", "SHOW", "Falls", "FALLS", "MIRROR", "Turn", "STEP", "Say", "LAST", "ENDS", "Meetings", "COUNTS", "Ways", "REST", "Rank", "ROD 2:", "Rod 2:", "AFTER 2", "After 2", "ADD l4", "Add l4", "DROP 0", "Drop 0", "WORD l", "Word l", "PLACE 0 0", "Place 0 0", "CORNERS 0", "Corners 0", "NEWS 0", "News 0",
		"sho", "show1", "show,", "shows", "fall", "lasts", "end", "meeting", "count", "corner 0", "new 0", "way", "rests", "ranks", "rods 2:", "words l", "places 0 0", "afters 2", "adds l4", "drops 0", "turns", "mirrors", "steps", "says", "falls;show", "falls,show",
		"rod=2:", "rod:2:", "rod2:", "after2", "after,2", "drop0", "addl4", "wordl", "place 0,2", "place0 2", "corners0", "news0", "rod\t2:", "after\t2", "word\tl", "place\t0\t2", "place 0\t2", "after\u00a02", "drop\x000",
		"2 after", "l word", "0 place 0", "0 0 place", "place place 0", "show show", "show falls", "step step step", "rod rod", "rod rod 2:",
	}
	for _, line := range []string{"mirror", "turn", "step", "show", "say", "falls", "last", "ends", "meetings", "counts", "ways", "rest", "rank"} {
		lines = append(lines, line+" ", " "+line, line+"  ", "  "+line, line+" 0", line+" l", line+" 0 0", line+" x", line+"\t", line+"\r", "\t"+line, line+"\x00", line+" "+line)
	}
	for _, name := range []string{"after", "drop", "corners", "news"} {
		lines = append(lines, name, name+" 0 ", name+"  0", " "+name+" 0", name+" 0 0", name+" 0 2 4", name+"  ")
		for _, n := range badNumbers() {
			lines = append(lines, name+" "+n)
		}
	}
	for _, n := range badNumbers() {
		lines = append(lines, "place "+n+" 0", "place 0 "+n, "place "+n+" "+n, "place "+n+" 999999", "add l"+n, "add r"+n)
	}
	lines = append(lines, "place", "place ", "place  ", "place 0", "place 0  0", "place  0 0", "place 0 0 ", " place 0 0", "place 0 0 0", "place 0 0 0 0", "place   ", "place l 0", "place 0 l")
	for _, a := range []string{"", "l", "r", "4", "L4", "R4", "x4", "-4", "lr4", "ll4", "4l", "4r", "l 4", "l4 ", "l4 r4", "l4r6", "l4,r6", "él4", "\xff4", "\x004", "ｌ4", "s4", "q4", "m4", "k4", " l4", "l-4", "l+4", "+l4", "\tl4"} {
		lines = append(lines, "add "+a)
	}
	lines = append(lines, "add", "word", "word l ", "word  l", "word  ", " word l", "word l l", "word l r l", "word   ", "rod", "rod ", "rod  ", " rod 2:", "rod  2:", "rod 2: ", "rod 2: 2:", "rod 2 :", "rod 10: r2", "rod 10:r2 l4", "rod 10:r 2")
	for _, p := range []string{"3:", "0:", "1002:", "-2:", "02:", "+2:", "2", ":", "2::", "2:l", "2:x0", "2:l1", "2:l4", "2:l00", "2:L0", "2:r0l0", "2:l0l0", "10:l4l2", "10:l4r4r4", "2:\t", "2:\r", "2:\x00", "\xff2:", "２:", "2：", "2@", "2@l0", "10:2+6:", "rl", "1000000:", "18446744073709551618:", "2:l18446744073709551616", textOf(crowdedRod()) + "l1000"} {
		lines = append(lines, "rod "+p)
	}
	return lines
}

// manyDesks returns desks with rods and words of all kinds.
func manyDesks() []impl.Desk {
	words := slices.Concat([]string{"", "l", "r", "lr", "rl", "rrll", "lrrl"}, longWords(), thrownWords(20))
	var desks []impl.Desk
	for i, r := range manyRods() {
		desks = append(desks, impl.Desk{Rod: r, Word: words[i%len(words)]})
	}
	return desks
}

// someDesks returns a few desks: with no ants, one and the most, ants that fall at once, and words at their limits.
func someDesks(t *testing.T) []impl.Desk {
	t.Helper()
	return []impl.Desk{
		impl.FirstDesk(), {Rod: crowdedRod(), Word: "rrrrrrrlllllll"}, {Rod: impl.Rod{Length: 2, Ants: []impl.Ant{}}},
		deskOf(t, "2:", ""), deskOf(t, "1000:", "l"), deskOf(t, "10:r2", "r"), deskOf(t, "10:r2l6r8", "rrll"), deskOf(t, "10:l0r0l10r10", "lrrl"), deskOf(t, "2:l0r2", "llrr"), deskOf(t, "1000:r0l1000", "rlrlrlrlrlrlrl"),
	}
}

// thrownScript returns a script of so many lines: most of them have a form, the others none.
func (d *dice) thrownScript(good, bad []string, count int) string {
	s := ""
	for range count {
		line := good[d.below(len(good))]
		if d.below(6) == 0 {
			line = bad[d.below(len(bad))]
		}
		if len(s)+len(line)+1 <= impl.MaxScript {
			s += line + "\n"
		}
	}
	return s
}
