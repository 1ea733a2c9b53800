package tests

import (
	"slices"
	"strings"
	"testing"

	"loop.example/g01270/impl"
)

func TestExampleOfStarts(t *testing.T) {
	places := []int{2, 4, 8}
	wantCorners(t, "CountLastFalls", []int{4, 1}, []int{6, 1}, []int{8, 6})(impl.CountLastFalls(10, places))
	wantOne(t, "LatestFall", 8)(impl.LatestFall(10, places))
	wantOne(t, "EarliestEmpty", 4)(impl.EarliestEmpty(10, places))
	wantOne(t, "BestWays", "llr")(impl.BestWays(10, places))
	wantTwo(t, "MeanMeetings", 3, 4)(impl.MeanMeetings(10, places))
	wantTwo(t, "MeanLastFall", 29, 4)(impl.MeanLastFall(10, places))
	r := mustRod(t, "10:l2l4r8")
	wantRod(t, "RodOfFalls", r)(impl.RodOfFalls(10, []int{2, 4}, []int{2}))
	wantOne(t, "CountSameFalls", 1)(impl.CountSameFalls(10, []int{2, 4}, []int{2}))
	wantFalls(t, "FallsOfRod", []int{2, 4}, []int{2})(impl.FallsOfRod(r))
	wantRod(t, "RodOfWays", r)(impl.RodOfWays(10, places, "llr"))
	wantOne(t, "WaysOf", "llr")(impl.WaysOf(r))
}

func TestLastFallsAreCountedAsAntsWalk(t *testing.T) {
	eachStart(t, func(s start, all []course) {
		counts := make([]int, s.length+1)
		sum, earliest, best := 0, s.length+1, ""
		for _, w := range all {
			last, _ := w.last()
			counts[last]++
			sum += last
			if last < earliest {
				earliest, best = last, w.ways
			}
		}
		var want [][]int
		for time, count := range counts {
			if count > 0 {
				want = append(want, []int{time, count})
			}
		}
		num, den := inLowestTerms(sum, len(all))
		wantCorners(t, "CountLastFalls", want...)(impl.CountLastFalls(s.length, s.places))
		wantOne(t, "LatestFall", want[len(want)-1][0])(impl.LatestFall(s.length, s.places))
		wantOne(t, "EarliestEmpty", earliest)(impl.EarliestEmpty(s.length, s.places))
		wantTwo(t, "MeanLastFall", num, den)(impl.MeanLastFall(s.length, s.places))
		wantOne(t, "BestWays", best)(impl.BestWays(s.length, s.places))
	})
}

func TestLastAntsAreCountedAsAntsWalk(t *testing.T) {
	eachStart(t, func(s start, all []course) {
		counts := make([]int, len(s.places))
		for _, w := range all {
			_, ants := w.last()
			for _, ant := range ants {
				counts[ant]++
			}
		}
		var chances [][]int
		for ant, count := range counts {
			num, den := inLowestTerms(count, len(all))
			chances = append(chances, []int{num, den})
			wantOne(t, "CountLastAnt", count)(impl.CountLastAnt(s.length, s.places, ant))
		}
		wantCorners(t, "ChancesOfLast", chances...)(impl.ChancesOfLast(s.length, s.places))
	})
}

func TestMeetingsOfAllWaysAreCountedAsAntsWalk(t *testing.T) {
	eachStart(t, func(s start, all []course) {
		counts := make([]int, 101)
		sum := 0
		for _, w := range all {
			counts[w.meetings]++
			sum += w.meetings
		}
		num, den := inLowestTerms(sum, len(all))
		wantTwo(t, "MeanMeetings", num, den)(impl.MeanMeetings(s.length, s.places))
		for _, meetings := range []int{0, 1, 2, 3, 6, 9, 12, 35, 36, 37, 99, 100} {
			wantOne(t, "CountWithMeetings", counts[meetings])(impl.CountWithMeetings(s.length, s.places, meetings))
		}
	})
}

func TestWaysMakeRodsAndRodsTellWays(t *testing.T) {
	eachStart(t, func(s start, all []course) {
		for _, w := range all {
			r := impl.Rod{Length: s.length}
			for i, place := range s.places {
				way := 1
				if w.ways[i] == 'l' {
					way = -1
				}
				r.Ants = append(r.Ants, antAt(place, way))
			}
			wantRod(t, "RodOfWays", r)(impl.RodOfWays(s.length, s.places, w.ways))
			wantOne(t, "WaysOf", w.ways)(impl.WaysOf(r))
		}
	})
}

// What is counted of all ways has to come to all of them.
func TestCountsComeToAllWays(t *testing.T) {
	for _, s := range slices.Concat(smallStarts(8), thrownStarts(40), greatStarts()) {
		ways, meetings := 0, 0
		counts, _ := impl.CountLastFalls(s.length, s.places)
		for _, c := range counts {
			ways += c[1]
		}
		for m := range 101 {
			count, _ := impl.CountWithMeetings(s.length, s.places, m)
			meetings += count
		}
		if all := 1 << len(s.places); ways != all || meetings != all {
			t.Errorf("%+v: %d and %d, not %d", s, ways, meetings, all)
		}
	}
}

// From the other side the falls are the same, and ants are told the other way around.
func TestStartsFromTheOtherSide(t *testing.T) {
	for _, s := range slices.Concat(smallStarts(8), thrownStarts(40)) {
		var turned []int
		for _, place := range s.places {
			turned = append(turned, s.length-place)
		}
		slices.Reverse(turned)
		falls, _ := impl.CountLastFalls(s.length, s.places)
		wantCorners(t, "CountLastFalls", falls...)(impl.CountLastFalls(s.length, turned))
		chances, _ := impl.ChancesOfLast(s.length, s.places)
		slices.Reverse(chances)
		wantCorners(t, "ChancesOfLast", chances...)(impl.ChancesOfLast(s.length, turned))
	}
}

func TestBestWaysEmptyTheRodEarliest(t *testing.T) {
	for _, s := range slices.Concat(smallStarts(8), thrownStarts(60), greatStarts()) {
		ways, _ := impl.BestWays(s.length, s.places)
		r, ok := impl.RodOfWays(s.length, s.places, ways)
		if !ok {
			t.Fatal("RodOfWays", s, ways)
		}
		last, _ := impl.LastFall(r)
		wantOne(t, "EarliestEmpty", last)(impl.EarliestEmpty(s.length, s.places))
	}
}

func TestArePlacesByTheirRules(t *testing.T) {
	limits := []int{-2, -1, 0, 1, 2, 3, 4, 5, 6, 7, 8}
	for length := -2; length <= 6; length++ {
		for _, a := range limits {
			for _, b := range limits {
				good := length == 2 || length == 4 || length == 6
				even := a%2 == 0 && b%2 == 0
				if got, want := impl.ArePlaces(length, []int{a, b}), good && even && a >= 0 && a < b && b <= length; got != want {
					t.Errorf("ArePlaces(%d, %d and %d) is %v", length, a, b, got)
				}
				if got, want := impl.ArePlaces(length, []int{a}), good && a%2 == 0 && a >= 0 && a <= length; got != want {
					t.Errorf("ArePlaces(%d, %d) is %v", length, a, got)
				}
			}
		}
	}
	for _, s := range greatStarts() {
		if !impl.ArePlaces(s.length, s.places) {
			t.Error("no places", s)
		}
	}
	for _, s := range noStarts() {
		if impl.ArePlaces(s.length, s.places) {
			t.Error("places", s)
		}
	}
}

func TestOnePlaceAlone(t *testing.T) {
	for _, c := range []struct {
		length, place int
		best          string
		early, late   int
		num, den      int
	}{
		{2, 0, "l", 0, 2, 1, 1}, {2, 2, "r", 0, 2, 1, 1}, {8, 4, "l", 4, 4, 4, 1}, {10, 4, "l", 4, 6, 5, 1}, {10, 6, "r", 4, 6, 5, 1},
		{1000, 0, "l", 0, 1000, 500, 1}, {1000, 1000, "r", 0, 1000, 500, 1}, {1000, 500, "l", 500, 500, 500, 1}, {1000, 502, "r", 498, 502, 500, 1},
	} {
		places := []int{c.place}
		falls := [][]int{{c.early, 1}, {c.late, 1}}
		if c.early == c.late {
			falls = [][]int{{c.early, 2}}
		}
		wantCorners(t, "CountLastFalls", falls...)(impl.CountLastFalls(c.length, places))
		wantOne(t, "EarliestEmpty", c.early)(impl.EarliestEmpty(c.length, places))
		wantOne(t, "LatestFall", c.late)(impl.LatestFall(c.length, places))
		wantOne(t, "BestWays", c.best)(impl.BestWays(c.length, places))
		wantOne(t, "CountLastAnt", 2)(impl.CountLastAnt(c.length, places, 0))
		wantCorners(t, "ChancesOfLast", []int{1, 1})(impl.ChancesOfLast(c.length, places))
		wantTwo(t, "MeanMeetings", 0, 1)(impl.MeanMeetings(c.length, places))
		wantTwo(t, "MeanLastFall", c.num, c.den)(impl.MeanLastFall(c.length, places))
		wantOne(t, "CountWithMeetings 0", 2)(impl.CountWithMeetings(c.length, places, 0))
		wantOne(t, "CountWithMeetings 1", 0)(impl.CountWithMeetings(c.length, places, 1))
		wantRod(t, "RodOfWays l", impl.Rod{Length: c.length, Ants: antsOf(c.place, -1)})(impl.RodOfWays(c.length, places, "l"))
		wantRod(t, "RodOfWays r", impl.Rod{Length: c.length, Ants: antsOf(c.place, 1)})(impl.RodOfWays(c.length, places, "r"))
	}
}

func TestPlacesAtBothEndsFallAtOnce(t *testing.T) {
	for _, length := range []int{2, 4, 1000} {
		places := []int{0, length}
		wantCorners(t, "CountLastFalls", []int{0, 1}, []int{length, 3})(impl.CountLastFalls(length, places))
		wantOne(t, "EarliestEmpty", 0)(impl.EarliestEmpty(length, places))
		wantOne(t, "LatestFall", length)(impl.LatestFall(length, places))
		wantOne(t, "BestWays", "lr")(impl.BestWays(length, places))
		// By lr and by rl both fall at one time, by ll the ant 1 is last and by rr the ant 0.
		wantCorners(t, "ChancesOfLast", []int{3, 4}, []int{3, 4})(impl.ChancesOfLast(length, places))
		num, den := inLowestTerms(3*length, 4)
		wantTwo(t, "MeanLastFall", num, den)(impl.MeanLastFall(length, places))
		wantTwo(t, "MeanMeetings", 1, 4)(impl.MeanMeetings(length, places))
		wantFalls(t, "FallsOfRod lr", []int{0}, []int{0})(impl.FallsOfRod(impl.Rod{Length: length, Ants: antsOf(0, -1, length, 1)}))
	}
}

func TestMostPlaces(t *testing.T) {
	places := evenUpTo(2 * (impl.MaxChosen - 1))
	wantOne(t, "LatestFall", 1000)(impl.LatestFall(1000, places))
	wantOne(t, "EarliestEmpty", 22)(impl.EarliestEmpty(1000, places))
	wantOne(t, "BestWays", "llllllllllll")(impl.BestWays(1000, places))
	// The first place from which one goes to the right is the farthest from its end.
	counts, ok := impl.CountLastFalls(1000, places)
	if want := []int{22, 1}; !ok || len(counts) != 13 || !slices.Equal(counts[0], want) {
		t.Error("CountLastFalls", counts, ok)
	}
	for i, c := range counts[1:] {
		if want := []int{978 + 2*i, 1 << i}; !slices.Equal(c, want) {
			t.Error("CountLastFalls", c, "not", want)
		}
	}
	wantTwo(t, "MeanMeetings", 33, 2)(impl.MeanMeetings(1000, places))
	wantOne(t, "CountWithMeetings 36", 1)(impl.CountWithMeetings(1000, places, 36))
	wantOne(t, "CountWithMeetings 0", 13)(impl.CountWithMeetings(1000, places, 0))
	wantOne(t, "CountWithMeetings 37", 0)(impl.CountWithMeetings(1000, places, 37))
	wantOne(t, "CountWithMeetings 100", 0)(impl.CountWithMeetings(1000, places, 100))
	for ant, want := range map[int]int{0: 1, 1: 12, 6: 924, 10: 66, 11: 13} {
		wantOne(t, "CountLastAnt", want)(impl.CountLastAnt(1000, places, ant))
	}
}

func TestSeveralBestWays(t *testing.T) {
	for _, c := range []struct {
		length int
		places []int
		best   string
		least  int
	}{
		// Two ways are as good as each other if somebody is in the middle.
		{8, []int{4}, "l", 4}, {12, []int{2, 6}, "ll", 6}, {12, []int{6, 10}, "lr", 6}, {12, []int{2, 4, 6}, "lll", 6},
		{12, []int{2, 6, 10}, "llr", 6}, {12, []int{6, 8, 10}, "lrr", 6}, {20, []int{4, 10, 16}, "llr", 10}, {1000, []int{0, 500, 1000}, "llr", 500},
		// Otherwise just one is best.
		{20, []int{0, 8, 20}, "llr", 8}, {20, []int{2, 12, 18}, "lrr", 8}, {20, []int{0, 2, 4, 12, 16, 18, 20}, "lllrrrr", 8},
		{20, []int{4, 12}, "lr", 8}, {22, []int{4, 6, 12}, "llr", 10}, {20, []int{14, 16}, "rr", 6}, {20, []int{2, 4}, "ll", 4},
	} {
		wantOne(t, "BestWays", c.best)(impl.BestWays(c.length, c.places))
		wantOne(t, "EarliestEmpty", c.least)(impl.EarliestEmpty(c.length, c.places))
	}
}

// The chances of two that fall at one time are more than 1 together.
func TestChancesOfLastAnts(t *testing.T) {
	wantCorners(t, "ChancesOfLast", []int{1, 4}, []int{3, 4}, []int{1, 4})(impl.ChancesOfLast(10, []int{2, 4, 8}))
	for ant, want := range []int{2, 6, 2} {
		wantOne(t, "CountLastAnt", want)(impl.CountLastAnt(10, []int{2, 4, 8}, ant))
	}
	// Only an ant alone is always last, and each one is last by some ways.
	for _, s := range slices.Concat(smallStarts(10), thrownStarts(60)) {
		for ant := range s.places {
			count, ok := impl.CountLastAnt(s.length, s.places, ant)
			if always := count == 1<<len(s.places); !ok || count == 0 || always != (len(s.places) == 1) {
				t.Errorf("CountLastAnt(%+v, %d) is %d, %v", s, ant, count, ok)
			}
		}
	}
}

func TestWaysOfAnyRods(t *testing.T) {
	for s, want := range map[string]string{
		"2:": "", "1000:": "", "10:l4r4": "lr", "10:l0r0l10r10": "lrlr", "20:r2r6l10l16": "rrll", "10:l2l4r8": "llr", "1000:r0l1000": "rl",
	} {
		wantOne(t, "WaysOf", want)(impl.WaysOf(mustRod(t, s)))
	}
	wantOne(t, "WaysOf", strings.Repeat("r", 8)+strings.Repeat("l", 8))(impl.WaysOf(crowdedRod()))
	for _, r := range manyRods() {
		want := ""
		for _, a := range r.Ants {
			want += string("l.r"[a.Way+1])
		}
		wantOne(t, "WaysOf", want)(impl.WaysOf(r))
	}
}

func TestFallsOfRodAreThoseOfAnts(t *testing.T) {
	for _, r := range append(manyRods(), busyRod()) {
		w := courseOf(r)
		wantFalls(t, textOf(r), w.fallsAt(0), w.fallsAt(r.Length))(impl.FallsOfRod(r))
	}
	wantFalls(t, "no ants", nil, nil)(impl.FallsOfRod(impl.Rod{Length: 2}))
	wantFalls(t, "two in one place", []int{4}, []int{6})(impl.FallsOfRod(mustRod(t, "10:l4r4")))
	wantFalls(t, "two at both ends", []int{0, 10}, []int{0, 10})(impl.FallsOfRod(mustRod(t, "10:l0r0l10r10")))
	wantFalls(t, "only at the left", []int{2, 4, 8}, nil)(impl.FallsOfRod(mustRod(t, "10:l2l4l8")))
	wantFalls(t, "only at the right", nil, []int{2, 6, 8})(impl.FallsOfRod(mustRod(t, "10:r2r4r8")))
}

// Of all rods of a length just one has falls, and it is the one that falls tell.
func TestFallsTellOneRod(t *testing.T) {
	for _, length := range []int{2, 4, 6} {
		apart := map[string]int{}
		for _, r := range smallRods(length) {
			w := courseOf(r)
			left, right := w.fallsAt(0), w.fallsAt(length)
			wantRod(t, "RodOfFalls", r)(impl.RodOfFalls(length, left, right))
			same := slices.ContainsFunc(r.Ants, func(a impl.Ant) bool { return slices.Contains(r.Ants, antAt(a.At, -a.Way)) })
			if !same {
				apart[fallsText(left, right)]++
			}
		}
		all := evenUpTo(length)
		for bits := range 1 << len(all) {
			for more := range 1 << len(all) {
				left, right := someOf(all, bits), someOf(all, more)
				wantOne(t, "CountSameFalls", apart[fallsText(left, right)])(impl.CountSameFalls(length, left, right))
			}
		}
	}
}

func TestRodsHaveTheFallsThatTheyAreMadeOf(t *testing.T) {
	for _, r := range manyRods() {
		left, right, ok := impl.FallsOfRod(r)
		if !ok {
			t.Fatal("FallsOfRod", textOf(r))
		}
		wantRod(t, "RodOfFalls", r)(impl.RodOfFalls(r.Length, left, right))
		want := 1
		for i := 1; i < len(r.Ants); i++ {
			if r.Ants[i].At == r.Ants[i-1].At {
				want = 0
			}
		}
		wantOne(t, "CountSameFalls", want)(impl.CountSameFalls(r.Length, left, right))
	}
}

func TestFallsAtOneEndOrAtNone(t *testing.T) {
	for _, c := range []struct {
		length      int
		left, right []int
		rod         string
		count       int
	}{
		{10, nil, nil, "10:", 1}, {10, []int{}, []int{}, "10:", 1}, {2, nil, nil, "2:", 1}, {1000, nil, nil, "1000:", 1},
		{10, []int{2, 6}, nil, "10:l2l6", 1}, {10, nil, []int{2, 6}, "10:r4r8", 1}, {10, []int{0}, nil, "10:l0", 1}, {10, nil, []int{0}, "10:r10", 1},
		{10, []int{10}, nil, "10:l10", 1}, {10, nil, []int{10}, "10:r0", 1}, {10, []int{0, 10}, []int{0, 10}, "10:l0r0l10r10", 0},
		{10, []int{4}, []int{6}, "10:l4r4", 0}, {10, []int{4}, []int{4}, "10:l4r6", 1}, {10, []int{6}, []int{6}, "10:r4l6", 1},
		{10, []int{4, 8}, []int{4, 6}, "10:l4r4r6l8", 0}, {2, []int{0}, []int{0}, "2:l0r2", 1}, {2, []int{2}, []int{0}, "2:l2r2", 0}, {1000, []int{1000}, []int{1000}, "1000:r0l1000", 1},
	} {
		wantRod(t, "RodOfFalls", mustRod(t, c.rod))(impl.RodOfFalls(c.length, c.left, c.right))
		wantOne(t, "CountSameFalls", c.count)(impl.CountSameFalls(c.length, c.left, c.right))
	}
}

func TestMostFalls(t *testing.T) {
	for _, c := range mostFalls() {
		r, ok := impl.RodOfFalls(c.Length, c.Left, c.Right)
		if !ok || len(r.Ants) != impl.MaxAnts || !impl.IsRod(r) {
			t.Error("RodOfFalls", c, textOf(r), ok)
		}
		wantFalls(t, "FallsOfRod", c.Left, c.Right)(impl.FallsOfRod(r))
		wantOne(t, "CountSameFalls", 1)(impl.CountSameFalls(c.Length, c.Left, c.Right))
	}
}
