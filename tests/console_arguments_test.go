package tests

import (
	"slices"
	"strings"
	"testing"

	"loop.example/g01270/impl"
)

// consoleArgs are all arguments that a function of chapter 10 may take.
type consoleArgs struct {
	Desk   impl.Desk
	Line   string
	Script string
}

var consoleCalls = []namedCall[consoleArgs]{
	{"FirstDesk", func(consoleArgs) ([]any, bool) { return []any{impl.FirstDesk()}, true }},
	{"IsDesk", func(a consoleArgs) ([]any, bool) { return nil, impl.IsDesk(a.Desk) }},
	{"DeskLine", func(a consoleArgs) ([]any, bool) {
		x, y, ok := impl.DeskLine(a.Desk, a.Line)
		return []any{x, y}, ok
	}},
	{"RunScript", func(a consoleArgs) ([]any, bool) { x, ok := impl.RunScript(a.Script); return []any{x}, ok }},
	{"DeskAfter", func(a consoleArgs) ([]any, bool) { x, ok := impl.DeskAfter(a.Script); return []any{x}, ok }},
	{"FailedLines", func(a consoleArgs) ([]any, bool) { x, ok := impl.FailedLines(a.Script); return []any{x}, ok }},
}

var namesWithScripts = []string{"RunScript", "DeskAfter", "FailedLines"}

// noDesks returns desks whose Rod is no rod, whose Word is no word, or both.
func noDesks(t *testing.T) []impl.Desk {
	var desks []impl.Desk
	for i, r := range noRods() {
		desks = append(desks, impl.Desk{Rod: r}, impl.Desk{Rod: r, Word: "rl"}, impl.Desk{Rod: r, Word: noWords()[i%len(noWords())]})
	}
	for _, w := range noWords() {
		desks = append(desks, deskOf(t, "2:", w), deskOf(t, "10:r2l6r8", w), impl.Desk{Rod: crowdedRod(), Word: w})
	}
	return desks
}

// noLines returns texts that are too long for a line, or have a newline.
func noLines() []string {
	lines := []string{"\n", "\n\n", "show\n", "\nshow", "sh\now", "show\nshow", "word l\n", "word \n", "word \nl", "word\nl", "rod 2:\n", "after 2\n", "after\n2", "drop 0\nx", "\r\n", "show\r\n", "x\n", " \n", "\n ", "\x00\n", "\xff\n", strings.Repeat("\n", 5000), strings.Repeat("l", 2999) + "\n"}
	for _, size := range []int{impl.MaxScript + 1, impl.MaxScript + 2, 5000, 100000} {
		lines = append(lines, strings.Repeat("l", size), strings.Repeat(" ", size), strings.Repeat("\x00", size), "word "+strings.Repeat("r", size-5), "show"+strings.Repeat(" ", size-4), "after "+strings.Repeat("0", size-6), "rod 2:"+strings.Repeat("l0", size)[:size-6], strings.Repeat("é", size))
	}
	return lines
}

// noScripts returns texts that do not end with a newline, or have too many lines or bytes.
func noScripts() []string {
	scripts := []string{"x", " ", "show", "show\nshow", "\nshow", "\n ", "show\n ", "show\r", "show\n\r", "show\n\x00", "word ", "word \nword ", "\x00", "\xff", "é", "show\n\xff", strings.Repeat("\n", 49) + "x", strings.Repeat("\n", 50) + "x", strings.Repeat("show\n", 49) + "show"}
	for _, lines := range []int{impl.MaxLines + 1, impl.MaxLines + 2, 100, 2999, 3000} {
		scripts = append(scripts, strings.Repeat("\n", lines))
	}
	for _, line := range []string{"x\n", "show\n", "word \n", " \n"} {
		scripts = append(scripts, strings.Repeat(line, impl.MaxLines+1), strings.Repeat(line, 400))
	}
	for _, size := range []int{impl.MaxScript + 1, impl.MaxScript + 2, 5000, 100000} {
		scripts = append(scripts, strings.Repeat("l", size-1)+"\n", "word "+strings.Repeat("l", size-6)+"\n", "show\n"+strings.Repeat(" ", size-6)+"\n", strings.Repeat("\x00", size-1)+"\n", strings.Repeat("\n", 49)+strings.Repeat("x", size-50)+"\n", strings.Repeat("\n", size), strings.Repeat("x", size))
	}
	return append(scripts, strings.Repeat("x", impl.MaxScript), strings.Repeat("show\n", 40)+strings.Repeat("x", 2800))
}

// goodScripts returns scripts that change the desk, ask it, and are refused.
func goodScripts() []string {
	thrown := dice(31)
	scripts := []string{"", "\n", "show\n", "fly\n", "drop 9\n", "mirror\n", "rod 2:\n", "word \n", "after 2000\nfalls\ncounts\nways\n", strings.Repeat("\n", 50), strings.Repeat("turn\n", 50), strings.Repeat("x", 2999) + "\n"}
	for _, count := range []int{5, 20, 50} {
		for range 5 {
			scripts = append(scripts, thrown.thrownScript(goodLines(), linesWithout(), count))
		}
	}
	return scripts
}

// manyConsoleArgs returns arguments that are valid, that are not, and both mixed.
func manyConsoleArgs(t *testing.T) []consoleArgs {
	desks := append(someDesks(t), noDesks(t)...)
	lines := slices.Concat(goodLines(), noLines(), linesWithout())
	scripts := slices.Concat(goodScripts(), noScripts(), noLines())
	var list []consoleArgs
	for i, line := range lines {
		list = append(list, consoleArgs{desks[i%len(desks)], line, scripts[i%len(scripts)]}, consoleArgs{impl.FirstDesk(), line, line}, consoleArgs{impl.FirstDesk(), line, line + "\n"})
	}
	for i, d := range desks {
		for j := range 10 {
			n := 10*i + j
			list = append(list, consoleArgs{d, lines[n%len(lines)], scripts[n%len(scripts)]})
		}
	}
	return list
}

func TestConsoleNeverPanicsAndFailuresAreZero(t *testing.T) {
	checkFailuresAreZero(t, consoleCalls, manyConsoleArgs(t))
}

func TestConsoleKeepsArguments(t *testing.T) {
	list := manyConsoleArgs(t)
	for _, d := range someDesks(t) {
		for _, line := range append(goodLines(), "", "fly", "rod 3:", "place 0") {
			list = append(list, consoleArgs{Desk: d, Line: line})
		}
	}
	for _, s := range goodScripts() {
		list = append(list, consoleArgs{Desk: impl.FirstDesk(), Line: "say", Script: s})
	}
	checkArgumentsAreKept(t, consoleCalls, list)
}

func TestFunctionsThatRequireDesks(t *testing.T) {
	for _, line := range []string{"", "show", "say", "rod 2:", "word ", "word rl", "step", "mirror", "fly", "drop 9"} {
		var list, good []consoleArgs
		for _, d := range noDesks(t) {
			list = append(list, consoleArgs{Desk: d, Line: line})
		}
		for _, d := range someDesks(t) {
			good = append(good, consoleArgs{Desk: d, Line: line})
		}
		checkFails(t, consoleCalls, list, "IsDesk", "DeskLine")
		checkSucceeds(t, consoleCalls, good, "IsDesk", "DeskLine")
	}
}

func TestFunctionsThatRequireLines(t *testing.T) {
	for _, d := range append(someDesks(t), noDesks(t)[:3]...) {
		var list []consoleArgs
		for _, line := range noLines() {
			list = append(list, consoleArgs{Desk: d, Line: line})
		}
		checkFails(t, consoleCalls, list, "DeskLine")
	}
	var good []consoleArgs
	for _, line := range slices.Concat(goodLines(), linesWithout(), []string{strings.Repeat("l", impl.MaxScript), strings.Repeat(" ", impl.MaxScript), "word " + strings.Repeat("l", 2995)}) {
		good = append(good, consoleArgs{Desk: impl.FirstDesk(), Line: line})
	}
	checkSucceeds(t, consoleCalls, good, "DeskLine")
}

func TestFunctionsThatRequireScripts(t *testing.T) {
	var list, good []consoleArgs
	for _, s := range noScripts() {
		list = append(list, consoleArgs{Script: s})
	}
	checkFails(t, consoleCalls, list, namesWithScripts...)
	for _, s := range goodScripts() {
		good = append(good, consoleArgs{Script: s})
	}
	checkSucceeds(t, consoleCalls, good, namesWithScripts...)
}
