package tests

import (
	"runtime"
	"slices"
	"testing"

	"loop.example/g01270/impl"
)

// wantCircle looks that a call succeeds with a circle.
func wantCircle(t *testing.T, name string, want impl.Circle) func(got impl.Circle, ok bool) {
	t.Helper()
	return func(got impl.Circle, ok bool) {
		t.Helper()
		if !ok || !sameCircle(got, want) {
			t.Errorf("%s: %s, %v, not %s", name, circleText(got), ok, circleText(want))
		}
	}
}

func TestExampleOfBoxes(t *testing.T) {
	r := mustRod(t, "6:r2l4")
	wantRod(t, "BoxAfter 4", mustRod(t, "6:r0l6"))(impl.BoxAfter(r, 4))
	wantRod(t, "BoxAfter 6", r)(impl.BoxAfter(r, 6))
	wantRod(t, "MirrorRod", r)(impl.MirrorRod(r))
	wantRod(t, "HalfwayBox", r)(impl.HalfwayBox(r))
	wantTwo(t, "KnocksBy 6", 1, 1)(impl.KnocksBy(r, 6))
	wantOne(t, "BoxMeetings 6", 1)(impl.BoxMeetings(r, 6))
	wantTwo(t, "FirstKnocks", 4, 4)(impl.FirstKnocks(r))
	wantOne(t, "BoxPeriod", 6)(impl.BoxPeriod(r))
	wantCircle(t, "RoundOfBox", mustCircle(t, "12@r2r8"))(impl.RoundOfBox(r))
}

func TestBoxesAreWhereAntsWalk(t *testing.T) {
	eachBox(t, func(r impl.Rod, w boxWalk) {
		for _, time := range timesInBox(r.Length) {
			wantRod(t, "BoxAfter", w.box(r.Length, time))(impl.BoxAfter(r, time))
			for ant, a := range w.states[time] {
				wantOne(t, "BoxPlace", a.At)(impl.BoxPlace(r, ant, time))
				wantOne(t, "BoxWay", a.Way)(impl.BoxWay(r, ant, time))
			}
		}
	})
}

func TestKnocksAreThoseOfTheWalk(t *testing.T) {
	eachBox(t, func(r impl.Rod, w boxWalk) {
		for _, time := range timesInBox(r.Length) {
			left, right := w.count(time, atWall(0)), w.count(time, atWall(r.Length))
			wantTwo(t, "KnocksBy", left, right)(impl.KnocksBy(r, time))
		}
		for ant := range r.Ants {
			for _, time := range []int{0, 2, r.Length - 2, r.Length, 2*r.Length - 2, 2 * r.Length, lastTime - 2, lastTime} {
				wantOne(t, "KnocksOf", w.count(time, byAnt(ant)))(impl.KnocksOf(r, ant, time))
			}
			first := w.first(byAnt(ant))
			if first < 0 {
				checkFails(t, wallCalls, []wallArgs{{Rod: r, Ant: ant}}, "NextKnockOf")
			} else {
				wantOne(t, "NextKnockOf", first)(impl.NextKnockOf(r, ant))
			}
		}
		if len(r.Ants) > 0 {
			left, right := w.first(atWall(0)), w.first(atWall(r.Length))
			wantTwo(t, "FirstKnocks", left, right)(impl.FirstKnocks(r))
		}
	})
}

func TestMeetingsInBoxesAreThoseOfTheWalk(t *testing.T) {
	eachBox(t, func(r impl.Rod, w boxWalk) {
		for _, time := range timesInBox(r.Length) {
			wantOne(t, "BoxMeetings", w.meetings[time])(impl.BoxMeetings(r, time))
		}
	})
}

func TestPeriodsAndVisitsAreThoseOfTheWalk(t *testing.T) {
	eachBox(t, func(r impl.Rod, w boxWalk) {
		period := 2
		for !slices.Equal(w.states[period], r.Ants) {
			period += 2
		}
		wantOne(t, "BoxPeriod", period)(impl.BoxPeriod(r))
		if 2*r.Length%period != 0 {
			t.Error("BoxPeriod", period, "does not divide a round")
		}
		visits := make([]int, r.Length+1)
		for time := 2; time <= 2*r.Length; time += 2 {
			for _, a := range w.states[time] {
				visits[a.At]++
			}
		}
		for place := 0; place <= r.Length; place += 2 {
			wantOne(t, "VisitsOf", visits[place])(impl.VisitsOf(r, place))
		}
	})
}

func TestBoxesAreMirroredBehindALength(t *testing.T) {
	eachBox(t, func(r impl.Rod, w boxWalk) {
		mirror := impl.Rod{Length: r.Length}
		for _, a := range slices.Backward(r.Ants) {
			mirror.Ants = append(mirror.Ants, antAt(r.Length-a.At, -a.Way))
		}
		wantRod(t, "the walk", mirror)(w.box(r.Length, r.Length), true)
		wantRod(t, "HalfwayBox", mirror)(impl.HalfwayBox(r))
		wantRod(t, "BoxAfter a length", mirror)(impl.BoxAfter(r, r.Length))
		wantRod(t, "MirrorRod", mirror)(impl.MirrorRod(r))
		wantRod(t, "BoxAfter two lengths", r)(impl.BoxAfter(r, 2*r.Length))
		wantRod(t, "HalfwayBox of it", r)(impl.HalfwayBox(mirror))
	})
}

// From the other side it is the other wall at which there is a knock.
func TestBoxesFromTheOtherSide(t *testing.T) {
	for _, r := range manyBoxes() {
		mirror, _ := impl.MirrorRod(r)
		for _, time := range []int{0, 2, 8, r.Length, 998, lastTime} {
			left, right, _ := impl.KnocksBy(r, time)
			wantTwo(t, "KnocksBy "+textOf(r), right, left)(impl.KnocksBy(mirror, time))
			meetings, _ := impl.BoxMeetings(r, time)
			wantOne(t, "BoxMeetings "+textOf(r), meetings)(impl.BoxMeetings(mirror, time))
		}
		if len(r.Ants) > 0 {
			left, right, _ := impl.FirstKnocks(r)
			wantTwo(t, "FirstKnocks "+textOf(r), right, left)(impl.FirstKnocks(mirror))
		}
		period, _ := impl.BoxPeriod(r)
		wantOne(t, "BoxPeriod "+textOf(r), period)(impl.BoxPeriod(mirror))
	}
}

// What is behind a time goes on as a box of its own.
func TestBoxesGoOn(t *testing.T) {
	for _, r := range manyBoxes() {
		for _, times := range [][2]int{{2, 2}, {r.Length - 2, 4}, {6, 34}, {r.Length, 1000}} {
			first, then, both := times[0], times[1], times[0]+times[1]
			half, ok := impl.BoxAfter(r, first)
			if !ok || !impl.IsBox(half) {
				t.Fatal("BoxAfter", textOf(r), first, textOf(half), ok)
			}
			want, _ := impl.BoxAfter(r, both)
			wantRod(t, "BoxAfter "+textOf(r), want)(impl.BoxAfter(half, then))
			left, right, _ := impl.KnocksBy(r, first)
			more, rights, _ := impl.KnocksBy(half, then)
			wantTwo(t, "KnocksBy "+textOf(r), left+more, right+rights)(impl.KnocksBy(r, both))
			meetings, _ := impl.BoxMeetings(r, first)
			later, _ := impl.BoxMeetings(half, then)
			wantOne(t, "BoxMeetings "+textOf(r), meetings+later)(impl.BoxMeetings(r, both))
		}
	}
}

// Each knock is one of some ant, and in a round each wall has as many as there are ants.
func TestKnocksAreThoseOfAllAnts(t *testing.T) {
	for _, r := range manyBoxes() {
		wantTwo(t, "KnocksBy a round "+textOf(r), len(r.Ants), len(r.Ants))(impl.KnocksBy(r, 2*r.Length))
		for _, time := range []int{2, r.Length, 502, lastTime} {
			sum := 0
			for ant := range r.Ants {
				n, ok := impl.KnocksOf(r, ant, time)
				if !ok || n > 0 && ant > 0 && ant < len(r.Ants)-1 {
					t.Fatal("KnocksOf", textOf(r), ant, time, n, ok)
				}
				sum += n
			}
			if left, right, _ := impl.KnocksBy(r, time); left+right != sum {
				t.Fatal("KnocksBy", textOf(r), time, left, right, "not", sum)
			}
		}
	}
}

func TestRoundsOfBoxes(t *testing.T) {
	for _, r := range manyBoxes() {
		if 2*r.Length > impl.MaxAround {
			checkFails(t, wallCalls, []wallArgs{{Rod: r}}, "RoundOfBox")
			continue
		}
		c, ok := impl.RoundOfBox(r)
		if !ok || c.Length != 2*r.Length || len(c.Ants) != len(r.Ants) || !impl.IsCircle(c) {
			t.Fatal("RoundOfBox", textOf(r), circleText(c), ok)
		}
		for _, a := range r.Ants {
			far := antAt(a.At, 1)
			if a.Way == -1 {
				far.At = 2*r.Length - a.At
			}
			if !slices.Contains(c.Ants, far) {
				t.Fatal("RoundOfBox", textOf(r), circleText(c))
			}
		}
	}
}

// The ants of the circle tell at each time where those of the box are.
func TestRoundsTellWhereAntsAre(t *testing.T) {
	eachBox(t, func(r impl.Rod, w boxWalk) {
		if 2*r.Length > impl.MaxAround {
			return
		}
		c, _ := impl.RoundOfBox(r)
		for _, time := range timesInBox(r.Length) {
			around, _ := impl.CircleAfter(c, time)
			var told, places []int
			for _, a := range around.Ants {
				told = append(told, min(a.At, 2*r.Length-a.At))
			}
			for _, a := range w.states[time] {
				places = append(places, a.At)
			}
			slices.Sort(told)
			wantList(t, "RoundOfBox", places)(told, true)
		}
	})
}

func TestLengthsOfRounds(t *testing.T) {
	for box, circle := range map[string]string{
		"2:": "4@", "200:": "400@", "2:r0": "4@r0", "2:l2": "4@r2", "2:r0l2": "4@r0r2", "6:l2r2": "12@r2r10", "10:r0l4r8l10": "20@r0r8r10r16",
		"200:r0l200": "400@r0r200", "200:l2r198": "400@r198r398", "200:l100r100": "400@r100r300", "198:r0": "396@r0",
	} {
		wantCircle(t, box, mustCircle(t, circle))(impl.RoundOfBox(mustRod(t, box)))
	}
	for _, box := range []string{"202:", "202:r0", "202:r0l202", "400:", "400:r2l4", "1000:", "1000:r0l1000"} {
		checkFails(t, wallCalls, []wallArgs{{Rod: mustRod(t, box)}}, "RoundOfBox")
	}
}

func TestIsBoxByItsRules(t *testing.T) {
	for _, length := range []int{2, 4, 6} {
		for _, r := range smallRods(length) {
			if got := impl.IsBox(r); got == hasWallAnt(r) {
				t.Error("IsBox", textOf(r), got)
			}
		}
	}
	for _, r := range manyBoxes() {
		if !impl.IsBox(r) {
			t.Error("no box", textOf(r))
		}
	}
	for _, r := range noBoxes() {
		if impl.IsBox(r) {
			t.Error("a box", r)
		}
	}
}

func TestBoxesWithNoAnts(t *testing.T) {
	for _, r := range []impl.Rod{{Length: 2}, {Length: 200, Ants: []impl.Ant{}}} {
		in := []wallArgs{{Rod: r}, {Rod: r, Time: lastTime, Place: 2}}
		fails := []string{"BoxPlace", "BoxWay", "KnocksOf", "NextKnockOf", "FirstKnocks"}
		checkFails(t, wallCalls, in, fails...)
		checkSucceeds(t, wallCalls, in, namesBut(wallCalls, fails...)...)
		wantRod(t, "BoxAfter", r)(impl.BoxAfter(r, lastTime))
		wantRod(t, "HalfwayBox", r)(impl.HalfwayBox(r))
		wantTwo(t, "KnocksBy", 0, 0)(impl.KnocksBy(r, lastTime))
		wantOne(t, "BoxMeetings", 0)(impl.BoxMeetings(r, lastTime))
		wantOne(t, "BoxPeriod", 2)(impl.BoxPeriod(r))
		wantOne(t, "VisitsOf", 0)(impl.VisitsOf(r, 2))
		wantCircle(t, "RoundOfBox", impl.Circle{Length: 2 * r.Length})(impl.RoundOfBox(r))
	}
}

func TestBoxesOfOneAnt(t *testing.T) {
	for _, c := range []struct {
		box         string
		left, right int
	}{
		{"2:r0", 4, 2}, {"2:l2", 2, 4}, {"10:r0", 20, 10}, {"10:l10", 10, 20}, {"10:r4", 16, 6}, {"10:l4", 4, 14}, {"10:r8", 12, 2}, {"10:l2", 2, 12},
		{"1000:r0", 2000, 1000}, {"1000:l1000", 1000, 2000}, {"1000:l2", 2, 1002}, {"1000:r998", 1002, 2},
	} {
		r := mustRod(t, c.box)
		round := 2 * r.Length
		wantTwo(t, c.box, c.left, c.right)(impl.FirstKnocks(r))
		wantOne(t, c.box, min(c.left, c.right))(impl.NextKnockOf(r, 0))
		wantOne(t, c.box, round)(impl.BoxPeriod(r))
		wantOne(t, c.box, 0)(impl.BoxMeetings(r, lastTime))
		for _, time := range []int{0, 2, c.left - 2, c.left, c.right - 2, c.right, round, lastTime} {
			left, right := (time-c.left+round)/round, (time-c.right+round)/round
			wantTwo(t, c.box, left, right)(impl.KnocksBy(r, time))
			wantOne(t, c.box, left+right)(impl.KnocksOf(r, 0, time))
		}
		for place, want := range map[int]int{0: 1, 2: 2, r.Length - 2: 2, r.Length: 1} {
			if r.Length > 2 {
				wantOne(t, c.box, want)(impl.VisitsOf(r, place))
			}
		}
	}
}

// An ant that has just knocked does not do so at the time 0, and not before it has come there again.
func TestAntsThatGoAwayFromWalls(t *testing.T) {
	r := mustRod(t, "10:r0l10")
	wantRod(t, "BoxAfter 0", r)(impl.BoxAfter(r, 0))
	wantTwo(t, "KnocksBy 0", 0, 0)(impl.KnocksBy(r, 0))
	wantTwo(t, "KnocksBy 8", 0, 0)(impl.KnocksBy(r, 8))
	wantTwo(t, "KnocksBy 10", 1, 1)(impl.KnocksBy(r, 10))
	wantTwo(t, "FirstKnocks", 10, 10)(impl.FirstKnocks(r))
	wantOne(t, "BoxPeriod", 10)(impl.BoxPeriod(r))
	for time, want := range map[int]int{0: 0, 4: 0, 6: 1, 14: 1, 16: 2, lastTime: 200} {
		wantOne(t, "BoxMeetings", want)(impl.BoxMeetings(r, time))
	}
	for ant := range 2 {
		wantOne(t, "NextKnockOf", 10)(impl.NextKnockOf(r, ant))
		wantOne(t, "KnocksOf 0", 0)(impl.KnocksOf(r, ant, 0))
		wantOne(t, "KnocksOf at last", 200)(impl.KnocksOf(r, ant, lastTime))
	}
}

func TestTwoInOnePlaceInABox(t *testing.T) {
	r := mustRod(t, "10:l4r4")
	wantRod(t, "BoxAfter 0", r)(impl.BoxAfter(r, 0))
	wantRod(t, "BoxAfter 4", mustRod(t, "10:r0r8"))(impl.BoxAfter(r, 4))
	wantRod(t, "BoxAfter 6", mustRod(t, "10:r2l10"))(impl.BoxAfter(r, 6))
	wantRod(t, "BoxAfter 10", mustRod(t, "10:l6r6"))(impl.BoxAfter(r, 10))
	for time, want := range map[int]int{0: 0, 8: 0, 10: 1, 18: 1, 20: 2} {
		wantOne(t, "BoxMeetings", want)(impl.BoxMeetings(r, time))
	}
	for ant, want := range []int{-1, 1} {
		wantOne(t, "BoxPlace 10", 6)(impl.BoxPlace(r, ant, 10))
		wantOne(t, "BoxWay 10", want)(impl.BoxWay(r, ant, 10))
	}
	wantTwo(t, "FirstKnocks", 4, 6)(impl.FirstKnocks(r))
	wantOne(t, "VisitsOf 4", 4)(impl.VisitsOf(r, 4))
	wantOne(t, "BoxMeetings at last", 200)(impl.BoxMeetings(r, lastTime))
}

func TestKnocksAndMeetingsJustAtTheTime(t *testing.T) {
	// Both knock at 4, the ants meet at 1, at 7, at 13 and so on.
	r := mustRod(t, "6:r2l4")
	for time, want := range map[int][2]int{0: {0, 0}, 2: {0, 1}, 4: {1, 1}, 6: {1, 1}, 8: {1, 2}, 10: {2, 2}, 12: {2, 2}, 14: {2, 3}} {
		wantTwo(t, "KnocksBy", want[0], want[0])(impl.KnocksBy(r, time))
		wantOne(t, "BoxMeetings", want[1])(impl.BoxMeetings(r, time))
		wantOne(t, "KnocksOf", want[0])(impl.KnocksOf(r, 0, time))
		wantOne(t, "KnocksOf", want[0])(impl.KnocksOf(r, 1, time))
	}
	// Two that meet at an even time have turned then, and so have those that knock.
	even := mustRod(t, "8:r2l6")
	wantRod(t, "BoxAfter 2", mustRod(t, "8:l4r4"))(impl.BoxAfter(even, 2))
	wantOne(t, "BoxMeetings 2", 1)(impl.BoxMeetings(even, 2))
	wantRod(t, "BoxAfter 6", mustRod(t, "8:r0l8"))(impl.BoxAfter(even, 6))
	wantOne(t, "BoxWay 6", 1)(impl.BoxWay(even, 0, 6))
	wantOne(t, "BoxWay 6", -1)(impl.BoxWay(even, 1, 6))
}

func TestFirstKnocksFarFromEachOther(t *testing.T) {
	for s, want := range map[string][2]int{
		"1000:l2l4l6": {2, 1002}, "1000:r994r996r998": {1002, 2}, "1000:r0r2r4": {1996, 996}, "1000:l996l998l1000": {996, 1996}, "1000:r0": {2000, 1000},
		"1000:l2r998": {2, 2}, "2:r0l2": {2, 2}, "10:l2r4l8": {2, 6}, "10:l6l8": {6, 16}, "10:r2r4": {16, 6},
	} {
		r := mustRod(t, s)
		wantTwo(t, s, want[0], want[1])(impl.FirstKnocks(r))
		last := len(r.Ants) - 1
		if last > 0 {
			wantOne(t, s, want[0])(impl.NextKnockOf(r, 0))
			wantOne(t, s, want[1])(impl.NextKnockOf(r, last))
		}
	}
}

// Ants in between never come to a wall.
func TestAntsThatDoNotKnock(t *testing.T) {
	for _, r := range []impl.Rod{mustRod(t, "10:l2l4l6"), mustRod(t, "4:r0l2r2l4"), crowdedRod(), evenBox(16, 16, 0)} {
		last := len(r.Ants) - 1
		for ant := 1; ant < last; ant++ {
			checkFails(t, wallCalls, []wallArgs{{Rod: r, Ant: ant}}, "NextKnockOf")
			wantOne(t, "KnocksOf", 0)(impl.KnocksOf(r, ant, lastTime))
		}
		checkSucceeds(t, wallCalls, []wallArgs{{Rod: r}, {Rod: r, Ant: last}}, "NextKnockOf")
	}
}

func TestPeriodsOfBoxes(t *testing.T) {
	for s, want := range map[string]int{
		"2:": 2, "1000:": 2, "2:r0": 4, "2:r0l2": 2, "4:r0l4": 4, "4:r0l2r2l4": 2, "6:r2l4": 6, "10:l4r4": 20, "10:r0l10": 10, "12:l4r8": 12, "12:l4r6": 24, "12:r0l8r8": 8, "12:l4r4l12": 8,
		"12:r0l6r6l12": 6, "8:r2l6": 8, "8:l4r4": 8, "1000:r0": 2000, "1000:r0l1000": 1000, "1000:l500r500": 1000, "1000:r0l500r500l1000": 500,
	} {
		wantOne(t, s, want)(impl.BoxPeriod(mustRod(t, s)))
	}
	for ants, want := range map[int]int{1: 2000, 2: 1000, 4: 500, 5: 400, 8: 250, 10: 200} {
		wantOne(t, "BoxPeriod of even ones", want)(impl.BoxPeriod(evenBox(1000, ants, 0)))
	}
}

func TestVisitsOfPlaces(t *testing.T) {
	for _, r := range []impl.Rod{mustRod(t, "2:r0l2"), mustRod(t, "6:r2l4"), mustRod(t, "1000:r0"), crowdedRod(), evenBox(16, 16, 0)} {
		count := len(r.Ants)
		wantOne(t, "VisitsOf 0", count)(impl.VisitsOf(r, 0))
		wantOne(t, "VisitsOf Length", count)(impl.VisitsOf(r, r.Length))
		for place := 2; place < r.Length; place += 2 {
			wantOne(t, "VisitsOf", 2*count)(impl.VisitsOf(r, place))
		}
	}
}

func TestLimitsOfBoxesMetExactly(t *testing.T) {
	// There is somebody in each place in which a box of the length 16 has room, and both walls hear a knock at each even time.
	full := evenBox(16, impl.MaxAnts, 0)
	if len(full.Ants) != impl.MaxAnts || !impl.IsBox(full) {
		t.Fatal("the full box", textOf(full))
	}
	wantOne(t, "BoxPeriod", 2)(impl.BoxPeriod(full))
	wantTwo(t, "KnocksBy 0", 0, 0)(impl.KnocksBy(full, 0))
	wantTwo(t, "KnocksBy 2", 1, 1)(impl.KnocksBy(full, 2))
	wantTwo(t, "KnocksBy at last", 1000, 1000)(impl.KnocksBy(full, lastTime))
	wantOne(t, "KnocksOf at last", 1000)(impl.KnocksOf(full, 15, lastTime))
	// In each time of a length each two meet once.
	wantOne(t, "BoxMeetings", 120)(impl.BoxMeetings(full, 16))
	wantOne(t, "BoxMeetings at last", 15000)(impl.BoxMeetings(full, lastTime))
	// The busiest one: a knock at each even time at each wall, from two ants.
	busy := mustRod(t, "2:r0l2")
	wantTwo(t, "KnocksBy at last", 1000, 1000)(impl.KnocksBy(busy, lastTime))
	wantOne(t, "BoxMeetings at last", 1000)(impl.BoxMeetings(busy, lastTime))

	wantTwo(t, "KnocksBy 2 MaxLength", impl.MaxAnts, impl.MaxAnts)(impl.KnocksBy(crowdedRod(), lastTime))
	wantTwo(t, "KnocksBy MaxLength", 8, 8)(impl.KnocksBy(crowdedRod(), impl.MaxLength))
	wantTwo(t, "FirstKnocks", 986, 986)(impl.FirstKnocks(crowdedRod()))
	wantOne(t, "BoxMeetings 2 MaxLength", 240)(impl.BoxMeetings(crowdedRod(), lastTime))
	wantRod(t, "BoxAfter 2 MaxLength", crowdedRod())(impl.BoxAfter(crowdedRod(), lastTime))
}

// No call leaves behind a wall that still knocks.
func TestKnocksAreAllHeard(t *testing.T) {
	before := runtime.NumGoroutine()
	for range 20 {
		for _, r := range []impl.Rod{{Length: 10}, mustRod(t, "6:r2l4"), crowdedRod(), evenBox(16, impl.MaxAnts, 0)} {
			for _, until := range []int{0, 2, 986, lastTime} {
				impl.KnocksBy(r, until)
				impl.KnocksOf(r, 0, until)
			}
			impl.FirstKnocks(r)
			impl.NextKnockOf(r, 0)
		}
	}
	waitForGoroutines(t, before)
}
