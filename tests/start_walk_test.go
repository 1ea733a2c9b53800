package tests

import (
	"fmt"
	"math/big"
	"slices"
	"testing"

	"loop.example/g01270/impl"
)

// start is a rod's length, and the places of its ants.
type start struct {
	length int
	places []int
}

// course is what the ants of a rod do until all have fallen: the times at which they
// fall, the ends, and how often they meet.
type course struct {
	ways     string
	times    []int
	ends     []int
	meetings int
}

// courseOf leads the ants of a rod in steps of 1, without any ghost.
func courseOf(r impl.Rod) course {
	var now []walker
	for _, a := range r.Ants {
		now = append(now, walker{at: a.At, way: a.Way})
	}
	w := course{}
	letFall(now, r.Length, 0)
	for time := 1; slices.ContainsFunc(now, func(a walker) bool { return !a.fallen }); time++ {
		for i := range now {
			if !now[i].fallen {
				now[i].at += now[i].way
			}
		}
		letFall(now, r.Length, time)
		w.meetings += letMeet(now)
	}
	for _, a := range now {
		w.times = append(w.times, a.fallTime)
		w.ends = append(w.ends, a.at)
	}
	return w
}

// last returns when the last ants of a course fall, and which ones they are.
func (w course) last() (int, []int) {
	last := max(0, slices.Max(w.times))
	var ants []int
	for ant, time := range w.times {
		if time == last {
			ants = append(ants, ant)
		}
	}
	return last, ants
}

// fallsAt returns the times of a course at which ants fall at one end, increasing.
func (w course) fallsAt(end int) []int {
	var times []int
	for ant, time := range w.times {
		if w.ends[ant] == end {
			times = append(times, time)
		}
	}
	slices.Sort(times)
	return times
}

// allCourses leads the ants of a start by all their ways, in the order of texts.
func allCourses(s start) []course {
	count := len(s.places)
	var all []course
	for number := range 1 << count {
		ways, r := "", impl.Rod{Length: s.length}
		for i, place := range s.places {
			right := number >> (count - 1 - i) & 1
			ways += "lr"[right : right+1]
			r.Ants = append(r.Ants, antAt(place, 2*right-1))
		}
		w := courseOf(r)
		w.ways = ways
		all = append(all, w)
	}
	return all
}

// inLowestTerms returns the numerator and the denominator of num / den.
func inLowestTerms(num, den int) (int, int) {
	x := big.NewRat(int64(num), int64(den))
	return int(x.Num().Int64()), int(x.Denom().Int64())
}

// someOf returns those of numbers whose bits are set.
func someOf(numbers []int, bits int) []int {
	var list []int
	for i, n := range numbers {
		if bits>>i&1 == 1 {
			list = append(list, n)
		}
	}
	return list
}

// evenUpTo returns all even numbers in 0..last.
func evenUpTo(last int) []int {
	var list []int
	for n := 0; n <= last; n += 2 {
		list = append(list, n)
	}
	return list
}

// smallStarts returns all places of rods with a length.
func smallStarts(length int) []start {
	all := evenUpTo(length)
	var starts []start
	for bits := 1; bits < 1<<len(all); bits++ {
		starts = append(starts, start{length, someOf(all, bits)})
	}
	return starts
}

// thrownStarts returns places of rods of many lengths.
func thrownStarts(count int) []start {
	d := dice(11)
	var starts []start
	for range count {
		length := []int{16, 40, 100, 400}[d.below(4)]
		var places []int
		for range 1 + d.below(7) {
			places = append(places, 2*d.below(length/2+1))
		}
		slices.Sort(places)
		starts = append(starts, start{length, slices.Compact(places)})
	}
	return starts
}

// greatStarts returns places at the limits: as many as there may be, on the longest rods.
func greatStarts() []start {
	return []start{
		{impl.MaxLength, []int{0}},
		{impl.MaxLength, []int{impl.MaxLength}},
		{impl.MaxLength, []int{0, 2, 4, 498, 500, 502, 504, 600, 602, 996, 998, 1000}},
		{60, []int{0, 6, 10, 16, 20, 26, 30, 38, 42, 50, 54, 60}},
		{22, []int{0, 2, 4, 6, 8, 10, 12, 14, 16, 18, 20, 22}},
	}
}

// eachStart runs a check with many starts and the courses of all their ways.
func eachStart(t *testing.T, check func(s start, all []course)) {
	t.Helper()
	starts := slices.Concat(smallStarts(2), smallStarts(4), smallStarts(10), thrownStarts(60), greatStarts())
	for _, s := range starts {
		check(s, allCourses(s))
		if t.Failed() {
			t.Fatalf("the start is %+v", s)
		}
	}
}

// wantTwo looks that a call succeeds with two numbers.
func wantTwo(t *testing.T, name string, one, two int) func(a, b int, ok bool) {
	t.Helper()
	return func(a, b int, ok bool) {
		t.Helper()
		if !ok || a != one || b != two {
			t.Errorf("%s: %d, %d, %v, not %d, %d", name, a, b, ok, one, two)
		}
	}
}

// wantRod looks that a call succeeds with a rod.
func wantRod(t *testing.T, name string, want impl.Rod) func(got impl.Rod, ok bool) {
	t.Helper()
	return func(got impl.Rod, ok bool) {
		t.Helper()
		if !ok || !sameRod(got, want) {
			t.Errorf("%s: %s, %v, not %s", name, textOf(got), ok, textOf(want))
		}
	}
}

// wantFalls looks that a call succeeds with falls at both ends.
func wantFalls(t *testing.T, name string, left, right []int) func(l, r []int, ok bool) {
	t.Helper()
	return func(l, r []int, ok bool) {
		t.Helper()
		if !ok || !slices.Equal(l, left) || !slices.Equal(r, right) {
			t.Errorf("%s: %v, %v, %v, not %v, %v", name, l, r, ok, left, right)
		}
	}
}

func fallsText(left, right []int) string { return fmt.Sprint(left, right) }
