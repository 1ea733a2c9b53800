package tests

import (
	"fmt"
	"slices"
	"strings"
	"testing"

	"loop.example/g01270/impl"
)

func clueOf(kind, a, b int) impl.Clue { return impl.Clue{Kind: kind, A: a, B: b} }

// cluesOf returns clues whose kinds, A and B are told in turn.
func cluesOf(numbers ...int) []impl.Clue {
	var list []impl.Clue
	for c := range slices.Chunk(numbers, 3) {
		list = append(list, clueOf(c[0], c[1], c[2]))
	}
	return list
}

func puzzleOf(s start, clues ...impl.Clue) impl.Puzzle {
	return impl.Puzzle{Length: s.length, Places: s.places, Clues: clues}
}

func textOfPuzzle(p impl.Puzzle) string {
	var places, clues []string
	for _, place := range p.Places {
		places = append(places, fmt.Sprint(place))
	}
	for _, c := range p.Clues {
		clues = append(clues, fmt.Sprintf("%d.%d.%d", c.Kind, c.A, c.B))
	}
	return fmt.Sprintf("%d:%s:%s", p.Length, strings.Join(places, "+"), strings.Join(clues, ","))
}

func samePuzzle(a, b impl.Puzzle) bool {
	return a.Length == b.Length && slices.Equal(a.Places, b.Places) && slices.Equal(a.Clues, b.Clues)
}

func mustPuzzle(t *testing.T, s string) impl.Puzzle {
	t.Helper()
	p, ok := impl.ParsePuzzle(s)
	if !ok {
		t.Fatalf("ParsePuzzle(%q) fails", s)
	}
	return p
}

// wantPuzzle looks that a call succeeds with a puzzle.
func wantPuzzle(t *testing.T, name string, want impl.Puzzle) func(got impl.Puzzle, ok bool) {
	t.Helper()
	return func(got impl.Puzzle, ok bool) {
		t.Helper()
		if !ok || !samePuzzle(got, want) {
			t.Errorf("%s: %s, %v, not %s", name, textOfPuzzle(got), ok, textOfPuzzle(want))
		}
	}
}

// onRodBehind returns how many ants of a course have not fallen behind a time.
func (w course) onRodBehind(time int) int {
	count := 0
	for _, fall := range w.times {
		if fall > time {
			count++
		}
	}
	return count
}

// numberTold returns what a course has for what a clue of a kind tells of an ant or of a time.
func (w course) numberTold(kind, a int) int {
	switch kind {
	case 0:
		return strings.IndexByte("lr", w.ways[a])
	case 1:
		return len(w.fallsAt(0))
	case 2:
		return w.meetings
	case 3:
		last, _ := w.last()
		return last
	case 4:
		return w.times[a]
	}
	return w.onRodBehind(a)
}

// clueFor returns the clue of a kind that a course fits, of an ant or of a time if it tells of one.
func (w course) clueFor(kind, a int) impl.Clue {
	number := w.numberTold(kind, a)
	if kind == 1 || kind == 2 || kind == 3 {
		return clueOf(kind, number, 0)
	}
	return clueOf(kind, a, number)
}

func (w course) fitsClue(c impl.Clue) bool { return w.clueFor(c.Kind, c.A) == c }

// waysThatFit returns the ways of all courses that fit some clues, in the order of texts.
func waysThatFit(all []course, clues []impl.Clue) []string {
	var list []string
	for _, w := range all {
		if !slices.ContainsFunc(clues, func(c impl.Clue) bool { return !w.fitsClue(c) }) {
			list = append(list, w.ways)
		}
	}
	return list
}

// cluesBut returns clues without the one with an index.
func cluesBut(clues []impl.Clue, k int) []impl.Clue {
	return slices.Delete(slices.Clone(clues), k, k+1)
}

// isClueByRules says the same as IsClue, kind by kind.
func isClueByRules(length, ants int, c impl.Clue) bool {
	within := func(n, last int) bool { return n >= 0 && n <= last }
	if length < 2 || length > 1000 || length%2 != 0 || ants < 1 || ants > 8 {
		return false
	}
	switch c.Kind {
	case 0:
		return within(c.A, ants-1) && (c.B == 0 || c.B == 1)
	case 1:
		return within(c.A, ants) && c.B == 0
	case 2:
		return within(c.A, 100) && c.B == 0
	case 3:
		return within(c.A, 1000) && c.B == 0
	case 4:
		return within(c.A, ants-1) && within(c.B, 1000)
	case 5:
		return within(c.A, 1000) && c.A%2 == 0 && within(c.B, ants)
	}
	return false
}

// isPuzzleByRules says the same as IsPuzzle.
func isPuzzleByRules(p impl.Puzzle) bool {
	if len(p.Places) < 1 || len(p.Places) > 8 || len(p.Clues) > 6 {
		return false
	}
	before := -1
	for _, place := range p.Places {
		if place <= before || place > p.Length || place%2 != 0 {
			return false
		}
		before = place
	}
	if slices.ContainsFunc(p.Clues, func(c impl.Clue) bool { return !isClueByRules(p.Length, len(p.Places), c) }) {
		return false
	}
	return isClueByRules(p.Length, len(p.Places), clueOf(0, 0, 0))
}

// hiddenStarts returns places of as many ants as a puzzle may have, at the ends and on the longest rods among them.
func hiddenStarts() []start {
	return []start{
		{14, evenUpTo(14)},
		{60, []int{0, 6, 16, 20, 30, 42, 50, 60}},
		{impl.MaxLength, []int{0, 2, 4, 498, 502, 504, 998, 1000}},
		{impl.MaxLength, []int{0}},
		{impl.MaxLength, []int{1000}},
		{2, []int{0}},
		{2, []int{2}},
		{2, []int{0, 2}},
	}
}

func puzzleStarts() []start {
	return slices.Concat(smallStarts(4), smallStarts(8), thrownStarts(40), hiddenStarts())
}

// cluesAround returns many clues of a start: all of small numbers, those that its courses fit, and those at all bounds.
func cluesAround(s start, all []course) []impl.Clue {
	ants := len(s.places)
	times := []int{0, 1, 2, 4, s.length - 2, s.length, s.length + 2, 998, 1000}
	for _, w := range all {
		times = append(times, w.times...)
	}
	slices.Sort(times)
	times = slices.Compact(times)
	var list []impl.Clue
	for n := range 101 {
		list = append(list, clueOf(2, n, 0))
	}
	for n := range ants + 1 {
		list = append(list, clueOf(1, n, 0))
	}
	for _, time := range times {
		list = append(list, clueOf(3, time, 0))
		for ant := range ants {
			list = append(list, clueOf(4, ant, time))
		}
		for n := range ants + 1 {
			list = append(list, clueOf(5, time, n))
		}
	}
	for ant := range ants {
		list = append(list, clueOf(0, ant, 0), clueOf(0, ant, 1))
	}
	return slices.DeleteFunc(list, func(c impl.Clue) bool { return !isClueByRules(s.length, ants, c) })
}

// thrownClues returns as many clues: most of them fit one course, the others are any.
func (d *dice) thrownClues(s start, all []course, around []impl.Clue, count int) []impl.Clue {
	w := all[d.below(len(all))]
	wrong := d.below(2) * d.below(3)
	var clues []impl.Clue
	for range count {
		if d.below(5) < wrong {
			clues = append(clues, around[d.below(len(around))])
			continue
		}
		a, kind := d.below(len(s.places)), d.below(6)
		if kind == 5 {
			a = 2 * d.below(s.length/2+1)
		}
		clues = append(clues, w.clueFor(kind, a))
	}
	return clues
}

// eachPuzzle runs a check with many puzzles and the courses of all their ways.
func eachPuzzle(t *testing.T, check func(p impl.Puzzle, all []course)) {
	t.Helper()
	d := dice(23)
	for _, s := range puzzleStarts() {
		all := allCourses(s)
		around := cluesAround(s, all)
		check(puzzleOf(s), all)
		for i := range 21 {
			p := puzzleOf(s, d.thrownClues(s, all, around, i%6+1)...)
			check(p, all)
			if t.Failed() {
				t.Fatalf("the puzzle is %s", textOfPuzzle(p))
			}
		}
	}
}
