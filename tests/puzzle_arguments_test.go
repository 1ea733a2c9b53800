package tests

import (
	"math"
	"slices"
	"strings"
	"testing"

	"loop.example/g01270/impl"
)

// puzzleArgs are all arguments that a function of chapter 9 may take.
type puzzleArgs struct {
	Length int
	Ants   int
	Clue   impl.Clue
	Places []int
	Ways   string
	Rod    impl.Rod
	Puzzle impl.Puzzle
	Index  int
	Clues  int
	Seed   int
	Text   string
}

var puzzleCalls = []namedCall[puzzleArgs]{
	{"IsClue", func(a puzzleArgs) ([]any, bool) { return nil, impl.IsClue(a.Length, a.Ants, a.Clue) }},
	{"IsPuzzle", func(a puzzleArgs) ([]any, bool) { return nil, impl.IsPuzzle(a.Puzzle) }},
	{"HiddenRod", func(a puzzleArgs) ([]any, bool) {
		x, ok := impl.HiddenRod(a.Length, a.Places, a.Ways)
		return []any{x}, ok
	}},
	{"DoesFit", func(a puzzleArgs) ([]any, bool) { x, ok := impl.DoesFit(a.Clue, a.Rod); return []any{x}, ok }},
	{"Solutions", func(a puzzleArgs) ([]any, bool) { x, ok := impl.Solutions(a.Puzzle); return []any{x}, ok }},
	{"CountSolutions", func(a puzzleArgs) ([]any, bool) { x, ok := impl.CountSolutions(a.Puzzle); return []any{x}, ok }},
	{"FirstSolution", func(a puzzleArgs) ([]any, bool) { x, ok := impl.FirstSolution(a.Puzzle); return []any{x}, ok }},
	{"SureWays", func(a puzzleArgs) ([]any, bool) { x, ok := impl.SureWays(a.Puzzle); return []any{x}, ok }},
	{"IsSolved", func(a puzzleArgs) ([]any, bool) { x, ok := impl.IsSolved(a.Puzzle); return []any{x}, ok }},
	{"NeedlessClues", func(a puzzleArgs) ([]any, bool) { x, ok := impl.NeedlessClues(a.Puzzle); return []any{x}, ok }},
	{"DropClue", func(a puzzleArgs) ([]any, bool) { x, ok := impl.DropClue(a.Puzzle, a.Index); return []any{x}, ok }},
	{"AddClue", func(a puzzleArgs) ([]any, bool) { x, ok := impl.AddClue(a.Puzzle, a.Clue); return []any{x}, ok }},
	{"LeftByClues", func(a puzzleArgs) ([]any, bool) { x, ok := impl.LeftByClues(a.Puzzle); return []any{x}, ok }},
	{"BestClue", func(a puzzleArgs) ([]any, bool) { x, ok := impl.BestClue(a.Puzzle); return []any{x}, ok }},
	{"HarderPuzzle", func(a puzzleArgs) ([]any, bool) { x, ok := impl.HarderPuzzle(a.Puzzle); return []any{x}, ok }},
	{"MakePuzzle", func(a puzzleArgs) ([]any, bool) {
		x, ok := impl.MakePuzzle(a.Rod, a.Clues, a.Seed)
		return []any{x}, ok
	}},
	{"PuzzleText", func(a puzzleArgs) ([]any, bool) { x, ok := impl.PuzzleText(a.Puzzle); return []any{x}, ok }},
	{"ParsePuzzle", func(a puzzleArgs) ([]any, bool) { x, ok := impl.ParsePuzzle(a.Text); return []any{x}, ok }},
}

// The functions that take a puzzle.
var namesWithPuzzles = namesBut(puzzleCalls, "IsClue", "HiddenRod", "DoesFit", "MakePuzzle", "ParsePuzzle")

// noClues returns clues that no rod with so many ants has.
func noClues(ants int) []impl.Clue {
	far := []int{math.MinInt, math.MinInt + 1, math.MinInt + 6, -1000, -2, 1 << 32, 1<<32 + 2, math.MaxInt - 1, math.MaxInt}
	var list []impl.Clue
	for _, kind := range append(far, -1, 6, 7, 256) {
		list = append(list, clueOf(kind, 0, 0), clueOf(kind, 2, 1))
	}
	for _, n := range append(far, -1) {
		for kind := range 6 {
			list = append(list, clueOf(kind, n, 0), clueOf(kind, 0, n), clueOf(kind, n, n), clueOf(kind, n, 1))
		}
	}
	for _, n := range []int{-2, -1, 1, 2, ants, 100} {
		list = append(list, clueOf(1, 1, n), clueOf(2, 1, n), clueOf(3, 2, n))
	}
	list = append(list, clueOf(0, ants, 0), clueOf(0, ants, 1), clueOf(0, 0, 2), clueOf(0, ants-1, 2), clueOf(1, ants+1, 0), clueOf(2, 101, 0), clueOf(3, 1001, 0))
	list = append(list, clueOf(4, ants, 0), clueOf(4, 0, 1001), clueOf(4, ants-1, 1001), clueOf(5, 1002, 0), clueOf(5, 1, 0), clueOf(5, 999, 0), clueOf(5, 1001, 0), clueOf(5, 0, ants+1), clueOf(5, 1000, ants+1))
	return list
}

// noHidden returns lengths and places that puzzles have none of.
func noHidden() []start {
	return append(noStarts(), start{16, evenUpTo(16)}, start{1000, evenUpTo(16)}, start{1000, evenUpTo(22)}, start{1000, []int{0, 2, 4, 498, 500, 502, 504, 998, 1000}})
}

// noPuzzles returns puzzles that are none.
func noPuzzles() []impl.Puzzle {
	three := start{10, []int{2, 6, 8}}
	good := clueOf(0, 0, 1)
	puzzles := []impl.Puzzle{{}, puzzleOf(three, slices.Repeat([]impl.Clue{good}, 7)...), puzzleOf(three, make([]impl.Clue, 7)...), puzzleOf(three, make([]impl.Clue, 500)...)}
	for _, s := range noHidden() {
		puzzles = append(puzzles, puzzleOf(s), puzzleOf(s, good))
	}
	for _, c := range noClues(3) {
		puzzles = append(puzzles, puzzleOf(three, c), puzzleOf(three, good, c), puzzleOf(three, c, good, good), puzzleOf(three, good, good, good, good, good, c))
	}
	for _, c := range noClues(1) {
		puzzles = append(puzzles, puzzleOf(start{2, []int{0}}, c))
	}
	for _, c := range noClues(8) {
		puzzles = append(puzzles, puzzleOf(start{1000, evenUpTo(14)}, c))
	}
	return puzzles
}

// goodPuzzles returns puzzles that are solved, with clues and room for one more.
func goodPuzzles(t *testing.T) []impl.Puzzle {
	var list []impl.Puzzle
	for _, s := range []string{"2:0:0.0.1", "2:2:4.0.2", "10:2+6+8:1.1.0,2.1.0", "10:2+6+8:0.0.1,0.1.0,0.2.1,5.0.3,1.1.0", "1000:0+1000:3.0.0", "14:0+2+4+6+8+10+12+14:1.8.0", "1000:0+2+4+6+8+10+12+1000:1.0.0,5.1000.0"} {
		list = append(list, mustPuzzle(t, s))
	}
	return list
}

// noHiddenRods returns rods of which no puzzles are made.
func noHiddenRods(t *testing.T) []impl.Rod {
	rods := append(noRods(), crowdedRod(), busyRod(), impl.Rod{Length: 1000, Ants: crowdedRod().Ants[:9]})
	for _, s := range []string{"2:", "1000:", "10:l4r4", "10:l0r0", "10:l10r10", "10:l0r0l10r10", "10:r2l4r4l6", "16:r0l2r4l6r8l10r12l14r16"} {
		rods = append(rods, mustRod(t, s))
	}
	return rods
}

// noPuzzleTexts returns texts that no puzzle has.
func noPuzzleTexts() []string {
	return []string{
		"", ":", "::", ":::", "10", "10:", "10::", "10:2", "10:2+6+8", ":2:", "10:2::", "10:2:0.0.1:", ":10:2:", "::10:2:", "10:2:0.0.1:0.0.1", "10:2:\n", " 10:2:", "10 :2:", "10: 2:", "10:2 :", "10:2: ",
		"010:2:", "+10:2:", "-10:2:", "10:02:", "10:-2:", "10:+2:", "10:2+:", "10:2++6:", "10:+2+6:", "10:2+06:", "10:2+-6:", "10:2,6:", "10:2 6:", "10:2-6:", "10:00:", "10:2.0:",
		"10:1:", "10:12:", "10:2+2:", "10:6+2:", "10:2+12:", "11:2:", "0:0:", "1:0:", "3:0:", "1002:0:", "1000:1002:", "16:0+2+4+6+8+10+12+14+16:",
		"10:2:0", "10:2:0.0", "10:2:0.0.", "10:2:.0.1", "10:2:0..1", "10:2:0.0.1.0", "10:2:0.0.1,", "10:2:,0.0.1", "10:2:0.0.1,,0.0.1", "10:2:,", "10:2:.", "10:2:..", "10:2:0,0,1", "10:2:0.0.1;0.0.1", "10:2:0.0.1+0.0.1",
		"10:2:00.0.1", "10:2:0.00.1", "10:2:0.0.01", "10:2:+0.0.1", "10:2:0.+0.1", "10:2:0.0.+1", "10:2:-0.0.1", "10:2:0.-0.1", "10:2:0.0.-0", "10:2:0.0.1 ", "10:2:0. 0.1", "10:2:0x0.0.1", "10:2:0.0.1e0", "10:2:1_0.0.0",
		"10:2:6.0.0", "10:2:-1.0.0", "10:2:0.1.0", "10:2:0.0.2", "10:2:1.2.0", "10:2:1.1.1", "10:2:2.101.0", "10:2:2.0.1", "10:2:3.1001.0", "10:2:3.2.1", "10:2:4.1.2", "10:2:4.0.1001", "10:2:5.1.0", "10:2:5.1002.0", "10:2:5.0.2",
		"10:2:0.0.1,0.0.1,0.0.1,0.0.1,0.0.1,0.0.1,0.0.1", "10:2:0.0.1,6.0.0",
		"9223372036854775808:2:", "-9223372036854775809:2:", "18446744073709551626:2:", "10:18446744073709551618:", "10:2:18446744073709551616.0.1", "10:2:0.18446744073709551616.1", "10:2:0.0.18446744073709551617", "10:2:0.0.99999999999999999999",
		"1٠:2:", "10:２:", "10:2：", "10:2:0.0.¹", "\xff10:2:", "10:2:\xff", "10:\x802:", "10:2:0.0.1\x00", "\x00", "10\x00:2:", "10:2:\xef\xbb\xbf", "\xef\xbb\xbf10:2:", "é", "10:2:é", "10:é:",
		strings.Repeat(":", 5000), strings.Repeat("9", 5000), "10:" + strings.Repeat("2+", 5000) + "2:", "10:2:" + strings.Repeat("0.0.1,", 5000) + "0.0.1", "10:2:" + strings.Repeat("0.", 5000) + "1", strings.Repeat("0", 5000) + "10:2:",
	}
}

// manyPuzzleArgs returns arguments that are valid, that are not, and both mixed.
func manyPuzzleArgs(t *testing.T) []puzzleArgs {
	var list []puzzleArgs
	numbers := append(numbersOff(5), 0, 1, 2, 5, 6, 7, 9999, 10000)
	puzzles := append(noPuzzles(), goodPuzzles(t)...)
	for _, s := range []string{"2:0:", "10:2+6+8:", "10:2+6+8:0.0.1,0.0.0", "10:2+6+8:0.0.1,0.1.0,0.2.1,1.1.0,2.1.0,3.8.0", "14:0+2+4+6+8+10+12+14:5.4.4"} {
		puzzles = append(puzzles, mustPuzzle(t, s))
	}
	rods := append(noHiddenRods(t), mustRod(t, "2:l0"), mustRod(t, "10:r2l6r8"), mustRod(t, "10:l0r10"), mustRod(t, "1000:r0r2l4r498l502r504l998l1000"))
	clues := append(noClues(3), cluesOf(0, 2, 1, 1, 3, 0, 2, 1, 0, 3, 8, 0, 4, 1, 8, 5, 2, 2, 0, 0, 0, 4, 7, 0)...)
	ways := append(noWays(), "r", "rl", "rlr", "rlrlrlrl")
	texts := append(noPuzzleTexts(), "2:0:", "10:2+6+8:1.1.0,2.1.0")
	for i, p := range puzzles {
		for j := range 6 {
			n := i + 7*j
			list = append(list, puzzleArgs{
				Length: p.Length, Ants: numbers[(i+j)%len(numbers)], Clue: clues[n%len(clues)], Places: p.Places, Ways: ways[n%len(ways)],
				Rod: rods[n%len(rods)], Puzzle: p, Index: numbers[n%len(numbers)], Clues: numbers[(n+3)%len(numbers)], Seed: numbers[(3*n+5)%len(numbers)], Text: texts[n%len(texts)],
			})
		}
	}
	for i, r := range rods {
		for j, c := range clues {
			// All rods with all clues are too many.
			if (i+j)%9 != 0 {
				continue
			}
			list = append(list, puzzleArgs{Length: 10, Ants: 3, Clue: c, Places: []int{2, 6, 8}, Ways: "rlr", Rod: r, Puzzle: puzzles[len(puzzles)-4], Clues: 6, Seed: 17})
		}
		for _, n := range numbers {
			list = append(list, puzzleArgs{Rod: r, Clues: n, Seed: 9999}, puzzleArgs{Rod: r, Clues: 6, Seed: n}, puzzleArgs{Rod: r, Clues: n, Seed: n})
		}
	}
	for _, s := range texts {
		list = append(list, puzzleArgs{Text: s})
	}
	return append(list, goodPuzzleArgs(t)...)
}

// goodPuzzleArgs returns arguments with which all functions succeed.
func goodPuzzleArgs(t *testing.T) []puzzleArgs {
	var list []puzzleArgs
	for i, p := range goodPuzzles(t) {
		ways, _ := impl.FirstSolution(p)
		r, _ := impl.HiddenRod(p.Length, p.Places, ways)
		for k := range p.Clues {
			list = append(list, puzzleArgs{
				Length: p.Length, Ants: len(p.Places), Clue: clueOf(0, 0, i%2), Places: p.Places, Ways: ways,
				Rod: r, Puzzle: p, Index: k, Clues: i % 7, Seed: 1000*i + k, Text: textOfPuzzle(p),
			})
		}
	}
	return list
}

func TestPuzzlesNeverPanicAndFailuresAreZero(t *testing.T) {
	checkFailuresAreZero(t, puzzleCalls, manyPuzzleArgs(t))
}

func TestPuzzlesKeepArguments(t *testing.T) {
	list := goodPuzzleArgs(t)
	checkSucceeds(t, puzzleCalls, list, namesBut(puzzleCalls)...)
	for i, a := range manyPuzzleArgs(t) {
		if i%9 == 0 {
			list = append(list, a)
		}
	}
	checkArgumentsAreKept(t, puzzleCalls, list)
}

func TestFunctionsThatRequirePuzzles(t *testing.T) {
	var list, good []puzzleArgs
	for _, p := range noPuzzles() {
		list = append(list, puzzleArgs{Puzzle: p, Clue: clueOf(0, 0, 1)}, puzzleArgs{Puzzle: p, Clue: clueOf(2, 1, 0), Index: len(p.Clues) - 1})
	}
	checkFails(t, puzzleCalls, list, namesWithPuzzles...)
	for _, p := range goodPuzzles(t) {
		good = append(good, puzzleArgs{Puzzle: p, Clue: clueOf(0, 0, 1)})
	}
	checkSucceeds(t, puzzleCalls, good, namesWithPuzzles...)
}

func TestFunctionsThatRequireClues(t *testing.T) {
	for ants, s := range map[int]string{1: "10:r2", 3: "10:r2l6r8", 8: "14:r0r2r4r6l8l10l12l14"} {
		r := mustRod(t, s)
		var list []puzzleArgs
		p := impl.Puzzle{Length: r.Length}
		for _, a := range r.Ants {
			p.Places = append(p.Places, a.At)
		}
		for _, c := range noClues(ants) {
			list = append(list, puzzleArgs{Length: r.Length, Ants: ants, Clue: c, Rod: r, Puzzle: p})
		}
		checkFails(t, puzzleCalls, list, "IsClue", "DoesFit", "AddClue")
		var good []puzzleArgs
		for _, c := range cluesOf(0, 0, 0, 0, ants-1, 1, 1, 0, 0, 1, ants, 0, 2, 0, 0, 2, 100, 0, 3, 0, 0, 3, 1000, 0, 4, 0, 0, 4, ants-1, 1000, 4, 0, 3, 5, 0, 0, 5, 1000, ants) {
			good = append(good, puzzleArgs{Length: r.Length, Ants: ants, Clue: c, Rod: r, Puzzle: p})
		}
		checkSucceeds(t, puzzleCalls, good, "IsClue", "DoesFit", "AddClue")
	}
}

func TestFunctionsThatRequireHiddenPlaces(t *testing.T) {
	var list, good []puzzleArgs
	for _, s := range noHidden() {
		for _, letter := range []string{"l", "r"} {
			list = append(list, puzzleArgs{Length: s.length, Places: s.places, Ways: strings.Repeat(letter, len(s.places))})
		}
	}
	for _, ways := range append(noWays(), "rl?", "???", "rlR") {
		list = append(list, puzzleArgs{Length: 10, Places: []int{2, 6, 8}, Ways: ways})
	}
	for _, ways := range []string{"lrlrlrl", "lrlrlrlrl", "lrlrlrlx", "xrlrlrlr"} {
		list = append(list, puzzleArgs{Length: 14, Places: evenUpTo(14), Ways: ways})
	}
	checkFails(t, puzzleCalls, list, "HiddenRod")
	for _, s := range puzzleStarts() {
		good = append(good, puzzleArgs{Length: s.length, Places: s.places, Ways: strings.Repeat("r", len(s.places))})
	}
	checkSucceeds(t, puzzleCalls, good, "HiddenRod")
}

func TestFunctionsThatRequireHiddenRods(t *testing.T) {
	var list []puzzleArgs
	for _, r := range noHiddenRods(t) {
		for _, c := range cluesOf(0, 0, 1, 1, 1, 0, 2, 0, 0, 3, 2, 0, 4, 0, 2, 5, 2, 0) {
			list = append(list, puzzleArgs{Rod: r, Clue: c, Clues: 3}, puzzleArgs{Rod: r, Clue: c})
		}
	}
	checkFails(t, puzzleCalls, list, "DoesFit", "MakePuzzle")
	var good []puzzleArgs
	for _, s := range []string{"2:l0", "2:r2", "10:l0r10", "1000:r0l1000", "14:r0r2r4r6l8l10l12l14"} {
		good = append(good, puzzleArgs{Rod: mustRod(t, s), Clues: 6})
	}
	checkSucceeds(t, puzzleCalls, good, "DoesFit", "MakePuzzle")
}

func TestFunctionsThatRequireIndicesOfClues(t *testing.T) {
	for _, s := range []string{"2:0:", "2:0:0.0.1", "10:2+6+8:1.1.0,2.1.0", "10:2+6+8:0.0.1,0.1.0,0.2.1,1.1.0,2.1.0,3.8.0"} {
		p := mustPuzzle(t, s)
		var list, good []puzzleArgs
		for _, k := range numbersOff(len(p.Clues) - 1) {
			list = append(list, puzzleArgs{Puzzle: p, Index: k})
		}
		for k := range p.Clues {
			good = append(good, puzzleArgs{Puzzle: p, Index: k})
		}
		checkFails(t, puzzleCalls, list, "DropClue")
		checkSucceeds(t, puzzleCalls, good, "DropClue")
	}
}

func TestFunctionsThatRequireNumbersOfCluesAndSeeds(t *testing.T) {
	for _, s := range []string{"2:l0", "10:r2l6r8", "14:r0r2r4r6l8l10l12l14"} {
		r := mustRod(t, s)
		var list, good []puzzleArgs
		for _, n := range append(numbersOff(impl.MaxClues), 1<<32) {
			list = append(list, puzzleArgs{Rod: r, Clues: n}, puzzleArgs{Rod: r, Clues: n, Seed: 9999})
		}
		for _, seed := range []int{math.MinInt, math.MinInt + 1, -10007, -2, -1, 10000, 10001, 10006, 10007, 1 << 32, 1 << 56, math.MaxInt - 1, math.MaxInt} {
			list = append(list, puzzleArgs{Rod: r, Seed: seed}, puzzleArgs{Rod: r, Clues: 6, Seed: seed})
		}
		for clues := range impl.MaxClues + 1 {
			good = append(good, puzzleArgs{Rod: r, Clues: clues}, puzzleArgs{Rod: r, Clues: clues, Seed: 9999}, puzzleArgs{Rod: r, Clues: clues, Seed: 5000})
		}
		checkFails(t, puzzleCalls, list, "MakePuzzle")
		checkSucceeds(t, puzzleCalls, good, "MakePuzzle")
	}
}
