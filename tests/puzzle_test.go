package tests

import (
	"math"
	"regexp"
	"slices"
	"strconv"
	"strings"
	"testing"

	"loop.example/g01270/impl"
)

func TestExampleOfPuzzles(t *testing.T) {
	p := mustPuzzle(t, "10:2+6+8:1.1.0,2.1.0")
	wantList(t, "Solutions", []string{"rlr"})(impl.Solutions(p))
	wantOne(t, "FirstSolution", "rlr")(impl.FirstSolution(p))
	wantOne(t, "IsSolved", true)(impl.IsSolved(p))
	wantList(t, "LeftByClues", []int{8, 3, 1})(impl.LeftByClues(p))
	first, ok := impl.DropClue(p, 1)
	if !ok {
		t.Fatal("DropClue fails")
	}
	wantOne(t, "SureWays", "???")(impl.SureWays(first))
	r := mustRod(t, "10:r2l6r8")
	wantRod(t, "HiddenRod", r)(impl.HiddenRod(10, []int{2, 6, 8}, "rlr"))
	made, ok := impl.MakePuzzle(r, 0, 0)
	if !ok {
		t.Fatal("MakePuzzle fails")
	}
	wantOne(t, "CountSolutions", 8)(impl.CountSolutions(made))
}

// checkClue looks that IsClue says the same as the rules.
func checkClue(t *testing.T, length, ants int, c impl.Clue) {
	t.Helper()
	if got := impl.IsClue(length, ants, c); got != isClueByRules(length, ants, c) {
		t.Fatalf("IsClue(%d, %d, %+v) is %v", length, ants, c, got)
	}
}

func TestIsClueByTheBoundsOfItsKind(t *testing.T) {
	numbers := []int{math.MinInt, math.MinInt + 1, -1000, -2, -1, 0, 1, 2, 3, 4, 5, 6, 7, 8, 9, 10, 98, 99, 100, 101, 102, 500, 501, 998, 999, 1000, 1001, 1002, 1 << 32, 1<<32 + 1, math.MaxInt - 1, math.MaxInt}
	for kind := -2; kind <= 8; kind++ {
		for ants := -1; ants <= 10; ants++ {
			for _, a := range numbers {
				for _, b := range numbers {
					for _, length := range []int{0, 2, 3, 10, 1000} {
						checkClue(t, length, ants, clueOf(kind, a, b))
					}
				}
			}
		}
	}
	for _, kind := range numbers {
		checkClue(t, 10, 3, clueOf(kind, 0, 0))
	}
	for _, number := range append(numbers, badLengths...) {
		for kind := range 6 {
			checkClue(t, number, 3, clueOf(kind, 0, 0))
			checkClue(t, 10, number, clueOf(kind, 0, 0))
		}
	}
}

func TestCluesAtTheirBounds(t *testing.T) {
	for _, c := range cluesOf(0, 0, 0, 0, 2, 1, 1, 0, 0, 1, 3, 0, 2, 0, 0, 2, 100, 0, 3, 0, 0, 3, 1000, 0, 4, 0, 0, 4, 2, 1000, 5, 0, 0, 5, 1000, 3) {
		if !impl.IsClue(2, 3, c) || !impl.IsClue(1000, 3, c) {
			t.Error("no clue:", c)
		}
	}
	for _, c := range cluesOf(
		-1, 0, 0, 6, 0, 0, 0, -1, 0, 0, 3, 0, 0, 0, -1, 0, 0, 2, 1, -1, 0, 1, 4, 0, 1, 1, 1, 1, 1, -1, 2, -1, 0, 2, 101, 0, 2, 1, 1, 2, 1, -1,
		3, -1, 0, 3, 1001, 0, 3, 6, 1, 3, 6, -1, 4, -1, 0, 4, 3, 0, 4, 0, -1, 4, 0, 1001, 5, -2, 0, 5, 1002, 0, 5, 3, 0, 5, 999, 3, 5, 2, -1, 5, 2, 4,
	) {
		if impl.IsClue(10, 3, c) || impl.IsPuzzle(puzzleOf(start{10, []int{2, 6, 8}}, c)) {
			t.Error("a clue:", c)
		}
	}
}

func TestRodsFitCluesAsAntsWalk(t *testing.T) {
	for _, s := range slices.Concat(smallStarts(4), smallStarts(8), thrownStarts(20), hiddenStarts()) {
		all := allCourses(s)
		around := cluesAround(s, all)
		for _, w := range all {
			r, ok := impl.HiddenRod(s.length, s.places, w.ways)
			if !ok {
				t.Fatal("HiddenRod", s, w.ways)
			}
			for _, c := range around {
				wantOne(t, "DoesFit", w.fitsClue(c))(impl.DoesFit(c, r))
				if t.Failed() {
					t.Fatalf("the clue is %v, the rod %s", c, textOf(r))
				}
			}
		}
	}
}

func TestRodFitsCluesByHand(t *testing.T) {
	// The ants fall at 6 at the left, and at 8 and 2 at the right.
	r := mustRod(t, "10:r2l6r8")
	good := cluesOf(0, 0, 1, 0, 1, 0, 0, 2, 1, 1, 1, 0, 2, 1, 0, 3, 8, 0, 4, 0, 6, 4, 1, 8, 4, 2, 2, 5, 0, 3, 5, 2, 2, 5, 4, 2, 5, 6, 1, 5, 8, 0, 5, 1000, 0)
	for _, c := range good {
		wantOne(t, "DoesFit", true)(impl.DoesFit(c, r))
	}
	for _, c := range cluesOf(0, 0, 0, 0, 1, 1, 0, 2, 0, 1, 0, 0, 1, 2, 0, 1, 3, 0, 2, 0, 0, 2, 2, 0, 2, 100, 0, 3, 6, 0, 3, 10, 0, 3, 7, 0, 4, 0, 8, 4, 1, 6, 4, 2, 3, 5, 0, 2, 5, 2, 3, 5, 6, 0, 5, 8, 1, 5, 1000, 1) {
		wantOne(t, "DoesFit", false)(impl.DoesFit(c, r))
	}
	// These fall at once, at both ends.
	atOnce := mustRod(t, "10:l0r10")
	for _, c := range cluesOf(3, 0, 0, 4, 0, 0, 4, 1, 0, 5, 0, 0, 1, 1, 0, 2, 0, 0) {
		wantOne(t, "DoesFit at once", true)(impl.DoesFit(c, atOnce))
	}
	wantOne(t, "DoesFit 5.0.2", false)(impl.DoesFit(clueOf(5, 0, 2), atOnce))
}

func TestHiddenRodsHaveTheirWays(t *testing.T) {
	for _, s := range puzzleStarts() {
		for _, w := range allCourses(s) {
			want := impl.Rod{Length: s.length}
			for i, place := range s.places {
				want.Ants = append(want.Ants, antAt(place, 2*strings.IndexByte("lr", w.ways[i])-1))
			}
			wantRod(t, "HiddenRod", want)(impl.HiddenRod(s.length, s.places, w.ways))
		}
	}
}

// sureOf returns the letters that all of some ways have, and ? where they differ.
func sureOf(list []string) string {
	sure := ""
	for i := range list[0] {
		letters := ""
		for _, ways := range list {
			letters += ways[i : i+1]
		}
		switch {
		case !strings.Contains(letters, "r"):
			sure += "l"
		case !strings.Contains(letters, "l"):
			sure += "r"
		default:
			sure += "?"
		}
	}
	return sure
}

func TestSolutionsFitAllCluesAsAntsWalk(t *testing.T) {
	none, one, some, every := 0, 0, 0, 0
	eachPuzzle(t, func(p impl.Puzzle, all []course) {
		want := waysThatFit(all, p.Clues)
		if !impl.IsPuzzle(p) || !slices.IsSorted(want) {
			t.Fatalf("no puzzle %s, or no order %v", textOfPuzzle(p), want)
		}
		wantList(t, "Solutions", want)(impl.Solutions(p))
		wantOne(t, "CountSolutions", len(want))(impl.CountSolutions(p))
		wantOne(t, "IsSolved", len(want) == 1)(impl.IsSolved(p))
		if len(want) == 0 {
			wantNone[string](t, "FirstSolution")(impl.FirstSolution(p))
			wantNone[string](t, "SureWays")(impl.SureWays(p))
		} else {
			wantOne(t, "FirstSolution", want[0])(impl.FirstSolution(p))
			wantOne(t, "SureWays", sureOf(want))(impl.SureWays(p))
		}
		switch len(want) {
		case 0:
			none++
		case 1:
			one++
		case len(all):
			every++
		default:
			some++
		}
	})
	if min(none, one, some, every) < 50 {
		t.Error("too few puzzles of a sort:", none, one, some, every)
	}
}

// A solution's rod fits each clue, and no other ways' rod fits all of them.
func TestSolutionsAreTheWaysThatFit(t *testing.T) {
	eachPuzzle(t, func(p impl.Puzzle, all []course) {
		list, _ := impl.Solutions(p)
		for _, w := range all {
			r, _ := impl.HiddenRod(p.Length, p.Places, w.ways)
			fitting := true
			for _, c := range p.Clues {
				fit, ok := impl.DoesFit(c, r)
				if !ok {
					t.Fatal("DoesFit fails", c, textOf(r))
				}
				fitting = fitting && fit
			}
			if fitting != slices.Contains(list, w.ways) {
				t.Errorf("%s: %s fits: %v, the solutions are %v", textOfPuzzle(p), w.ways, fitting, list)
			}
		}
	})
}

func TestCluesThatAreNeedlessOrBest(t *testing.T) {
	eachPuzzle(t, func(p impl.Puzzle, all []course) {
		count := len(waysThatFit(all, p.Clues))
		var needless []int
		left := []int{len(all)}
		best, fewest := 0, len(all)+1
		for k, c := range p.Clues {
			if len(waysThatFit(all, cluesBut(p.Clues, k))) == count {
				needless = append(needless, k)
			}
			left = append(left, len(waysThatFit(all, p.Clues[:k+1])))
			if alone := len(waysThatFit(all, []impl.Clue{c})); alone < fewest {
				best, fewest = k, alone
			}
		}
		wantList(t, "NeedlessClues", needless)(impl.NeedlessClues(p))
		wantList(t, "LeftByClues", left)(impl.LeftByClues(p))
		if len(p.Clues) == 0 {
			wantNone[int](t, "BestClue")(impl.BestClue(p))
		} else {
			wantOne(t, "BestClue", best)(impl.BestClue(p))
		}
	})
}

func TestCluesAreDroppedAndAdded(t *testing.T) {
	eachPuzzle(t, func(p impl.Puzzle, all []course) {
		for k := range p.Clues {
			want := p
			want.Clues = cluesBut(p.Clues, k)
			wantPuzzle(t, "DropClue", want)(impl.DropClue(p, k))
		}
		for _, c := range append(slices.Clone(p.Clues), clueOf(0, 0, 1), clueOf(3, 1000, 0), clueOf(5, 0, len(p.Places))) {
			if len(p.Clues) == impl.MaxClues {
				wantNone[impl.Puzzle](t, "AddClue")(impl.AddClue(p, c))
				continue
			}
			want := p
			want.Clues = append(slices.Clone(p.Clues), c)
			wantPuzzle(t, "AddClue", want)(impl.AddClue(p, c))
			back, ok := impl.DropClue(want, len(p.Clues))
			wantPuzzle(t, "DropClue", p)(back, ok)
		}
	})
}

func TestHarderPuzzlesAreSolvedByTheSameWays(t *testing.T) {
	solved, easier := 0, 0
	eachPuzzle(t, func(p impl.Puzzle, all []course) {
		solutions := waysThatFit(all, p.Clues)
		if len(solutions) != 1 {
			wantNone[impl.Puzzle](t, "HarderPuzzle")(impl.HarderPuzzle(p))
			return
		}
		want := p
		want.Clues = nil
		for k, c := range p.Clues {
			// The clue is taken out if those kept before and those behind it do.
			if len(waysThatFit(all, slices.Concat(want.Clues, p.Clues[k+1:]))) > 1 {
				want.Clues = append(want.Clues, c)
			}
		}
		harder, ok := impl.HarderPuzzle(p)
		wantPuzzle(t, "HarderPuzzle", want)(harder, ok)
		wantList(t, "Solutions of the harder one", solutions)(impl.Solutions(harder))
		wantList[int](t, "NeedlessClues of the harder one", nil)(impl.NeedlessClues(harder))
		wantPuzzle(t, "HarderPuzzle of it", harder)(impl.HarderPuzzle(harder))
		solved++
		if len(want.Clues) < len(p.Clues) {
			easier++
		}
	})
	if easier < 100 || solved-easier < 100 {
		t.Error("too few puzzles of a sort:", solved, easier)
	}
}

func TestHarderPuzzlesByHand(t *testing.T) {
	for s, want := range map[string]string{
		// All are needed.
		"10:2+6+8:1.1.0,2.1.0": "10:2+6+8:1.1.0,2.1.0", "10:2+6+8:0.0.1,0.1.0,0.2.1": "10:2+6+8:0.0.1,0.1.0,0.2.1",
		"2:0:0.0.1": "2:0:0.0.1",
		// One of two goes, the first one: that it does shows that it is taken out before.
		"10:2+6+8:1.1.0,2.1.0,0.0.1": "10:2+6+8:2.1.0,0.0.1", "10:2+6+8:0.0.1,2.1.0,1.1.0": "10:2+6+8:2.1.0,1.1.0",
		"10:2+6+8:2.1.0,1.1.0,0.0.1": "10:2+6+8:2.1.0,0.0.1",
		"2:0:0.0.1,0.0.1":            "2:0:0.0.1", "2:0:0.0.1,3.2.0": "2:0:3.2.0", "2:0:3.2.0,0.0.1": "2:0:0.0.1",
		"2:0:0.0.1,0.0.1,0.0.1,0.0.1,0.0.1,0.0.1": "2:0:0.0.1",
		// These tell nothing.
		"10:2+6+8:2.1.0,5.1000.0,1.1.0,5.0.3": "10:2+6+8:2.1.0,1.1.0",
		"1000:0+1000:1.2.0,1.2.0,5.0.1":       "1000:0+1000:1.2.0",
	} {
		wantPuzzle(t, s, mustPuzzle(t, want))(impl.HarderPuzzle(mustPuzzle(t, s)))
	}
	for _, s := range []string{"2:0:", "2:0:5.1000.0", "2:0:0.0.0,0.0.1", "10:2+6+8:1.1.0", "10:2+6+8:3.9.0", "10:2+6+8:"} {
		wantNone[impl.Puzzle](t, s)(impl.HarderPuzzle(mustPuzzle(t, s)))
	}
}

func TestPuzzlesByHand(t *testing.T) {
	for _, c := range []struct {
		text      string
		solutions []string
		sure      string
		needless  []int
		left      []int
		best      int
	}{
		{"2:0:0.0.1", []string{"r"}, "r", nil, []int{2, 1}, 0},
		{"2:0:0.0.0", []string{"l"}, "l", nil, []int{2, 1}, 0},
		{"2:0:0.0.1,0.0.1", []string{"r"}, "r", []int{0, 1}, []int{2, 1, 1}, 0},
		{"2:0:0.0.1,0.0.0", nil, "", nil, []int{2, 1, 0}, 0},
		{"2:2:4.0.0", []string{"r"}, "r", nil, []int{2, 1}, 0},
		{"2:2:4.0.2", []string{"l"}, "l", nil, []int{2, 1}, 0},
		// Either of two that nothing fits is needless.
		{"10:2:2.1.0,2.2.0", nil, "", []int{0, 1}, []int{2, 0, 0}, 0},
		{"10:2:0.0.1,2.2.0", nil, "", []int{0}, []int{2, 1, 0}, 1},
		{"10:2:5.1000.0,5.0.1", []string{"l", "r"}, "?", []int{0, 1}, []int{2, 2, 2}, 0},
		{"10:0+10:3.0.0", []string{"lr"}, "lr", nil, []int{4, 1}, 0},
		{"10:0+10:5.0.0", []string{"lr"}, "lr", nil, []int{4, 1}, 0},
		{"10:0+10:5.0.1", []string{"ll", "rr"}, "??", nil, []int{4, 2}, 0},
		{"10:0+10:5.8.2", []string{"rl"}, "rl", nil, []int{4, 1}, 0},
		{"10:0+10:5.10.2", nil, "", nil, []int{4, 0}, 0},
		// Equally good ones, and a better one behind them.
		{"10:2+6+8:0.0.1,0.1.0,0.2.1", []string{"rlr"}, "rlr", nil, []int{8, 4, 2, 1}, 0},
		{"10:2+6+8:0.0.1,1.1.0,1.1.0", []string{"rlr", "rrl"}, "r??", []int{1, 2}, []int{8, 4, 2, 2}, 1},
		{"10:2+6+8:0.0.1,1.1.0,1.0.0", nil, "", []int{0}, []int{8, 4, 2, 0}, 2},
		{"10:2+6+8:1.1.0,2.0.0", []string{"lrr"}, "lrr", nil, []int{8, 3, 1}, 0},
	} {
		p := mustPuzzle(t, c.text)
		wantList(t, c.text, c.solutions)(impl.Solutions(p))
		if c.sure == "" {
			wantNone[string](t, c.text)(impl.SureWays(p))
		} else {
			wantOne(t, c.text, c.sure)(impl.SureWays(p))
		}
		wantList(t, c.text, c.needless)(impl.NeedlessClues(p))
		wantList(t, c.text, c.left)(impl.LeftByClues(p))
		wantOne(t, c.text, c.best)(impl.BestClue(p))
	}
}

func TestPuzzlesWithoutClues(t *testing.T) {
	for _, s := range puzzleStarts() {
		all := allCourses(s)
		for _, clues := range [][]impl.Clue{nil, {}} {
			p := puzzleOf(s, clues...)
			wantOne(t, "CountSolutions", 1<<len(s.places))(impl.CountSolutions(p))
			wantOne(t, "FirstSolution", strings.Repeat("l", len(s.places)))(impl.FirstSolution(p))
			wantOne(t, "SureWays", strings.Repeat("?", len(s.places)))(impl.SureWays(p))
			wantOne(t, "IsSolved", false)(impl.IsSolved(p))
			wantList[int](t, "NeedlessClues", nil)(impl.NeedlessClues(p))
			wantList(t, "LeftByClues", []int{len(all)})(impl.LeftByClues(p))
			wantNone[int](t, "BestClue")(impl.BestClue(p))
			wantNone[impl.Puzzle](t, "DropClue")(impl.DropClue(p, 0))
			wantNone[impl.Puzzle](t, "HarderPuzzle")(impl.HarderPuzzle(p))
		}
	}
}

func TestCluesOfFullPuzzles(t *testing.T) {
	p := mustPuzzle(t, "10:2+6+8:0.0.1,0.1.0,0.2.1,1.1.0,2.1.0,3.8.0")
	wantNone[impl.Puzzle](t, "AddClue")(impl.AddClue(p, clueOf(4, 0, 6)))
	wantPuzzle(t, "DropClue 0", mustPuzzle(t, "10:2+6+8:0.1.0,0.2.1,1.1.0,2.1.0,3.8.0"))(impl.DropClue(p, 0))
	wantPuzzle(t, "DropClue 2", mustPuzzle(t, "10:2+6+8:0.0.1,0.1.0,1.1.0,2.1.0,3.8.0"))(impl.DropClue(p, 2))
	last := mustPuzzle(t, "10:2+6+8:0.0.1,0.1.0,0.2.1,1.1.0,2.1.0")
	wantPuzzle(t, "DropClue 5", last)(impl.DropClue(p, 5))
	wantPuzzle(t, "AddClue", p)(impl.AddClue(last, clueOf(3, 8, 0)))
	wantPuzzle(t, "DropClue", mustPuzzle(t, "2:0:"))(impl.DropClue(mustPuzzle(t, "2:0:0.0.1"), 0))
	wantPuzzle(t, "AddClue", mustPuzzle(t, "2:0:0.0.1"))(impl.AddClue(mustPuzzle(t, "2:0:"), clueOf(0, 0, 1)))
	wantPuzzle(t, "AddClue", mustPuzzle(t, "2:0:0.0.1,0.0.1"))(impl.AddClue(mustPuzzle(t, "2:0:0.0.1"), clueOf(0, 0, 1)))
}

// madeClues returns the clues that are made of a course with a seed.
func madeClues(length int, w course, count, seed int) []impl.Clue {
	numbers := []int{seed}
	for range 2 * count {
		numbers = append(numbers, (numbers[len(numbers)-1]*181+3323)%10007)
	}
	numbers = numbers[1:]
	var clues []impl.Clue
	for range count {
		kind, a, used := numbers[0]%6, 0, 1
		switch kind {
		case 0, 4:
			a, used = numbers[1]%len(w.ways), 2
		case 5:
			a, used = numbers[1]%(length/2)*2, 2
		}
		clues = append(clues, w.clueFor(kind, a))
		numbers = numbers[used:]
	}
	return clues
}

func TestPuzzlesAreMadeOfRodsAsAntsWalk(t *testing.T) {
	d := dice(29)
	kinds := make([]int, 6)
	for _, s := range puzzleStarts() {
		all := allCourses(s)
		for i := range 28 {
			w, count, seed := all[d.below(len(all))], i%(impl.MaxClues+1), d.below(10000)
			if i < 14 {
				seed = i / 7 * 9999
			}
			r, _ := impl.HiddenRod(s.length, s.places, w.ways)
			want := puzzleOf(s, madeClues(s.length, w, count, seed)...)
			made, ok := impl.MakePuzzle(r, count, seed)
			wantPuzzle(t, textOf(r), want)(made, ok)
			if list, fine := impl.Solutions(made); !fine || !slices.Contains(list, w.ways) {
				t.Errorf("the solutions of %s are %v, not %s", textOfPuzzle(made), list, w.ways)
			}
			for _, c := range made.Clues {
				kinds[c.Kind]++
			}
		}
	}
	if slices.Min(kinds) < 500 {
		t.Error("too few clues of a kind:", kinds)
	}
}

func TestPuzzlesOfAllSeedsFitTheirRod(t *testing.T) {
	for _, s := range []string{"2:r0", "10:r2l6r8", "12:l0r4l6r12", "1000:r0r2l4r498l502r504l998l1000"} {
		r := mustRod(t, s)
		ways, _ := impl.WaysOf(r)
		w := courseOf(r)
		w.ways = ways
		for seed := range 10000 {
			made, ok := impl.MakePuzzle(r, impl.MaxClues, seed)
			if !ok || !slices.Equal(made.Clues, madeClues(r.Length, w, impl.MaxClues, seed)) || !isPuzzleByRules(made) {
				t.Fatalf("MakePuzzle of %s and %d is %s, %v", s, seed, textOfPuzzle(made), ok)
			}
		}
	}
}

// The numbers that follow 0 are 3323, 4366, 3016, 8841, 2424 and 1759.
func TestPuzzlesMadeByHand(t *testing.T) {
	for _, c := range []struct {
		rod    string
		clues  int
		seed   int
		puzzle string
	}{
		{"10:r2l6r8", 0, 0, "10:2+6+8:"}, {"10:r2l6r8", 1, 0, "10:2+6+8:5.2.2"}, {"10:r2l6r8", 2, 0, "10:2+6+8:5.2.2,4.0.6"},
		{"10:r2l6r8", 3, 0, "10:2+6+8:5.2.2,4.0.6,0.1.0"}, {"10:r2l6r8", 0, 9999, "10:2+6+8:"},
		// Twice 366, which is 4366 modulo 500; twice 4366 modulo 500 would be 232.
		{"1000:r0l1000", 1, 0, "1000:0+1000:5.732.2"}, {"1000:r0l400", 1, 0, "1000:0+400:5.732.1"},
		{"2:l0", 1, 0, "2:0:5.0.0"}, {"2:r0", 1, 0, "2:0:5.0.1"}, {"2:r0", 3, 0, "2:0:5.0.1,4.0.2,0.0.1"},
		// The numbers that follow 9999 are 1875, 2460, 8275, 48 and 2004.
		{"10:r2l6r8", 1, 9999, "10:2+6+8:3.8.0"}, {"10:r2l6r8", 2, 9999, "10:2+6+8:3.8.0,0.1.0"}, {"10:r2l6r8", 3, 9999, "10:2+6+8:3.8.0,0.1.0,0.0.1"},
	} {
		wantPuzzle(t, c.rod, mustPuzzle(t, c.puzzle))(impl.MakePuzzle(mustRod(t, c.rod), c.clues, c.seed))
	}
}

func TestIsPuzzleByItsRules(t *testing.T) {
	eachPuzzle(t, func(p impl.Puzzle, all []course) {
		if !impl.IsPuzzle(p) || !isPuzzleByRules(p) {
			t.Error("no puzzle")
		}
	})
	for _, p := range noPuzzles() {
		if impl.IsPuzzle(p) || isPuzzleByRules(p) {
			t.Error("a puzzle:", textOfPuzzle(p))
		}
	}
	for _, a := range []int{-2, -1, 0, 1, 2, 3, 4, 5, 6, 8} {
		for _, b := range []int{-2, -1, 0, 1, 2, 3, 4, 5, 6, 8} {
			for length := -2; length <= 6; length++ {
				for _, places := range [][]int{{a}, {a, b}, {0, a, b}} {
					p := impl.Puzzle{Length: length, Places: places, Clues: cluesOf(0, len(places)-1, 1)}
					if got := impl.IsPuzzle(p); got != isPuzzleByRules(p) {
						t.Errorf("IsPuzzle(%s) is %v", textOfPuzzle(p), got)
					}
				}
			}
		}
	}
}

func TestPuzzlesAndTexts(t *testing.T) {
	eachPuzzle(t, func(p impl.Puzzle, all []course) {
		s := textOfPuzzle(p)
		wantOne(t, "PuzzleText", s)(impl.PuzzleText(p))
		wantPuzzle(t, "ParsePuzzle", p)(impl.ParsePuzzle(s))
	})
	for s, want := range map[string]impl.Puzzle{
		"2:0:":                           {Length: 2, Places: []int{0}},
		"1000:1000:":                     {Length: 1000, Places: []int{1000}},
		"2:0+2:5.1000.2":                 {Length: 2, Places: []int{0, 2}, Clues: cluesOf(5, 1000, 2)},
		"10:2+6+8:1.1.0,2.1.0":           {Length: 10, Places: []int{2, 6, 8}, Clues: cluesOf(1, 1, 0, 2, 1, 0)},
		"14:0+2+4+6+8+10+12+14:4.7.1000": {Length: 14, Places: evenUpTo(14), Clues: cluesOf(4, 7, 1000)},
		"1000:0+1000:0.0.0,0.1.1,1.2.0,2.100.0,3.1000.0,5.0.0": {Length: 1000, Places: []int{0, 1000}, Clues: cluesOf(0, 0, 0, 0, 1, 1, 1, 2, 0, 2, 100, 0, 3, 1000, 0, 5, 0, 0)},
	} {
		wantOne(t, "PuzzleText", s)(impl.PuzzleText(want))
		wantPuzzle(t, "ParsePuzzle", want)(impl.ParsePuzzle(s))
	}
}

var puzzleTextForm = regexp.MustCompile(`^(0|[1-9][0-9]{0,3}):((?:0|[1-9][0-9]{0,3})(?:\+(?:0|[1-9][0-9]{0,3}))*):((?:(?:0|[1-9][0-9]{0,3})[.,]?)*)$`)

// puzzleByForm says the same as ParsePuzzle from the form of a text and its numbers.
func puzzleByForm(s string) (impl.Puzzle, bool) {
	parts := puzzleTextForm.FindStringSubmatch(s)
	if parts == nil {
		return impl.Puzzle{}, false
	}
	p := impl.Puzzle{}
	p.Length, _ = strconv.Atoi(parts[1])
	for _, word := range strings.Split(parts[2], "+") {
		place, _ := strconv.Atoi(word)
		p.Places = append(p.Places, place)
	}
	form := regexp.MustCompile(`^(0|[1-9][0-9]*)\.(0|[1-9][0-9]*)\.(0|[1-9][0-9]*)$`)
	for _, word := range strings.Split(parts[3], ",") {
		numbers := form.FindStringSubmatch(word)
		if parts[3] == "" {
			break
		}
		if numbers == nil {
			return impl.Puzzle{}, false
		}
		c := impl.Clue{}
		c.Kind, _ = strconv.Atoi(numbers[1])
		c.A, _ = strconv.Atoi(numbers[2])
		c.B, _ = strconv.Atoi(numbers[3])
		p.Clues = append(p.Clues, c)
	}
	return p, isPuzzleByRules(p)
}

// checkText looks that ParsePuzzle takes a text if it has the form of one.
func checkText(t *testing.T, s string) {
	t.Helper()
	want, is := puzzleByForm(s)
	got, ok := impl.ParsePuzzle(s)
	if ok != is || ok && !samePuzzle(got, want) || !ok && !allZero([]any{got}) {
		t.Fatalf("ParsePuzzle(%q) = %s, %v", s, textOfPuzzle(got), ok)
	}
}

func TestEveryShortTextOfPuzzles(t *testing.T) {
	eachShortText("01248:+.,-x ", func(s string) { checkText(t, s) })
	eachShortText("0125.,+", func(s string) {
		checkText(t, "10:2+6+8:"+s)
		checkText(t, "10:2+6+8:1.1.0"+s)
		checkText(t, "10:2"+s+":1.1.0")
	})
}

func TestTextsOfPuzzlesWithOneSignChanged(t *testing.T) {
	for _, s := range []string{"2:0:", "10:2+6+8:", "10:2+6+8:1.1.0,2.1.0", "1000:0+1000:3.1000.0,5.1000.2,0.1.1", "14:0+2+4+6+8+10+12+14:4.7.10,2.100.0", "10:2+6:0.0.1,0.0.1,0.0.1,0.0.1,0.0.1"} {
		for _, changed := range withOneSignChanged(s, "0123456789:+.,-x lr\x00\x80") {
			checkText(t, changed)
		}
	}
}

func TestTextsThatAreNoPuzzles(t *testing.T) {
	for _, s := range noPuzzleTexts() {
		wantNone[impl.Puzzle](t, s)(impl.ParsePuzzle(s))
	}
}
