package tests

import (
	"math"
	"slices"
	"strings"
	"testing"

	"loop.example/g01270/impl"
)

func TestExampleOfCircles(t *testing.T) {
	c := mustCircle(t, "10@r0l4r6")
	for time, want := range map[int]string{0: "10@r0l4r6", 2: "10@l2r2r8", 10: "10@r0l4r6"} {
		if got, ok := impl.CircleAfter(c, time); !ok || circleText(got) != want {
			t.Error("CircleAfter", time, circleText(got), ok)
		}
	}
	if n, ok := impl.ShiftInRound(c); n != 1 || !ok {
		t.Error("ShiftInRound", n, ok)
	}
	if list, ok := impl.AntsAround(c, 10); !ok || !slices.Equal(list, antsOf(4, -1, 6, 1, 0, 1)) {
		t.Error("AntsAround", list, ok)
	}
	if n, ok := impl.MeetingsInRound(c); n != 4 || !ok {
		t.Error("MeetingsInRound", n, ok)
	}
	if n, ok := impl.ComesBackAfter(c); n != 30 || !ok {
		t.Error("ComesBackAfter", n, ok)
	}
	if gaps, ok := impl.GapsAround(c); !ok || !slices.Equal(gaps, []int{4, 2, 4}) {
		t.Error("GapsAround", gaps, ok)
	}
	if time, ok := impl.NextMeeting(c); time != 2 || !ok {
		t.Error("NextMeeting", time, ok)
	}
}

// timesToLook returns all even times in the first rounds, and some up to MaxRounds.
func timesToLook(length int) []int {
	var times []int
	for time := 0; time <= 2*length+4; time += 2 {
		times = append(times, time)
	}
	for time := 2*length + 6; time < impl.MaxRounds-4; time += 66 {
		times = append(times, time)
	}
	return append(times, impl.MaxRounds-4, impl.MaxRounds-2, impl.MaxRounds)
}

func TestAntsAreWhereTheyWalkAround(t *testing.T) {
	eachWalk(t, impl.MaxRounds, func(t *testing.T, c impl.Circle, w aroundWalk) {
		for _, time := range timesToLook(c.Length) {
			want := impl.Circle{Length: c.Length, Ants: w.anew(time)}
			if got, ok := impl.CircleAfter(c, time); !ok || !sameCircle(got, want) {
				t.Fatalf("CircleAfter(%s, %d) = %s, %v, not %s", circleText(c), time, circleText(got), ok, circleText(want))
			}
			if got, ok := impl.AntsAround(c, time); !ok || !slices.Equal(got, w.inOrder(time)) {
				t.Fatalf("AntsAround(%s, %d) = %v, %v, not %v", circleText(c), time, got, ok, w.inOrder(time))
			}
			for i, a := range c.Ants {
				want := w.states[time][i].At - a.At
				if got, ok := impl.WayAround(c, i, time); !ok || got != want {
					t.Fatalf("WayAround(%s, %d, %d) = %d, %v, not %d", circleText(c), i, time, got, ok, want)
				}
			}
		}
	})
}

func TestMeetingsAreThoseOfTheWalkAround(t *testing.T) {
	eachWalk(t, impl.MaxRounds, func(t *testing.T, c impl.Circle, w aroundWalk) {
		meetings := 0
		times := timesToLook(c.Length)
		for time, now := range w.meetings {
			meetings += now
			if !slices.Contains(times, time) {
				continue
			}
			if got, ok := impl.MeetingsAround(c, time); !ok || got != meetings {
				t.Fatalf("MeetingsAround(%s, %d) = %d, %v, not %d", circleText(c), time, got, ok, meetings)
			}
			if time != c.Length {
				continue
			}
			if got, ok := impl.MeetingsInRound(c); !ok || got != meetings {
				t.Fatalf("MeetingsInRound(%s) = %d, %v, not %d", circleText(c), got, ok, meetings)
			}
		}
		next := slices.IndexFunc(w.meetings, func(n int) bool { return n > 0 })
		if got, ok := impl.NextMeeting(c); ok != (next > 0) || got != max(next, 0) {
			t.Fatalf("NextMeeting(%s) = %d, %v, not %d", circleText(c), got, ok, next)
		}
	})
}

// isShifted reports whether each ant stands behind a round where one so many places farther on stood at first.
func isShifted(c impl.Circle, w aroundWalk, shift int) bool {
	for i, a := range w.inOrder(c.Length) {
		if a != c.Ants[(i+shift)%len(c.Ants)] {
			return false
		}
	}
	return true
}

func TestCirclesAreTheSameBehindARound(t *testing.T) {
	eachWalk(t, 2*impl.MaxAround, func(t *testing.T, c impl.Circle, w aroundWalk) {
		for _, time := range []int{c.Length, 2 * c.Length} {
			if got, ok := impl.CircleAfter(c, time); !ok || !sameCircle(got, c) {
				t.Fatalf("CircleAfter(%s, %d) = %s, %v", circleText(c), time, circleText(got), ok)
			}
		}
		shift, ok := impl.ShiftInRound(c)
		if ok != (len(c.Ants) > 0) || shift != 0 && shift >= len(c.Ants) || shift < 0 || !isShifted(c, w, shift) {
			t.Fatalf("ShiftInRound(%s) = %d, %v", circleText(c), shift, ok)
		}
	})
}

func TestCirclesComeAgainWhenTheyWalk(t *testing.T) {
	eachWalk(t, lastRound, func(t *testing.T, c impl.Circle, w aroundWalk) {
		same, back := 2, 2
		for !slices.Equal(w.anew(same), c.Ants) {
			same += 2
		}
		for !slices.Equal(w.inOrder(back), c.Ants) {
			back += 2
		}
		if got, ok := impl.LooksSameAfter(c); !ok || got != same {
			t.Fatalf("LooksSameAfter(%s) = %d, %v, not %d", circleText(c), got, ok, same)
		}
		if got, ok := impl.ComesBackAfter(c); !ok || got != back {
			t.Fatalf("ComesBackAfter(%s) = %d, %v, not %d", circleText(c), got, ok, back)
		}
	})
}

func TestTimesOfComingAgain(t *testing.T) {
	for s, want := range map[string][2]int{
		"2@": {2, 2}, "400@": {2, 2}, "2@r0": {2, 2}, "2@l0": {2, 2}, "2@l0r0": {2, 2}, "400@r0": {400, 400}, "400@l398": {400, 400},
		"8@r0r4": {4, 8}, "8@l0l4": {4, 8}, "8@r0r2r4r6": {2, 8}, "4@l0r0": {4, 4}, "4@l0r0l2r2": {2, 2}, "12@r0l2r4l6r8l10": {4, 4}, "12@r0l2r4l6": {12, 12}, "6@r0l2r2": {6, 18},
	} {
		c := mustCircle(t, s)
		if got, ok := impl.LooksSameAfter(c); got != want[0] || !ok {
			t.Error("LooksSameAfter", s, got, ok)
		}
		if got, ok := impl.ComesBackAfter(c); got != want[1] || !ok {
			t.Error("ComesBackAfter", s, got, ok)
		}
	}
	// A number that is returned has no limit: this one is greater than MaxRounds.
	late := impl.Circle{Length: 400, Ants: evenCircle(390, 15, 8).Ants}
	if got, ok := impl.ComesBackAfter(late); got != 15*400 || !ok {
		t.Error("ComesBackAfter with 15 ants", got, ok)
	}
}

func TestMeetingsAtThePlaceZero(t *testing.T) {
	c := mustCircle(t, "10@l2r8")
	if got, ok := impl.CircleAfter(c, 2); !ok || circleText(got) != "10@l0r0" {
		t.Error("CircleAfter", circleText(got), ok)
	}
	if list, ok := impl.AntsAround(c, 2); !ok || !slices.Equal(list, antsOf(0, 1, 0, -1)) {
		t.Error("AntsAround", list, ok)
	}
	for ant, want := range []int{-2, 2} {
		if got, ok := impl.WayAround(c, ant, 2); !ok || got != want {
			t.Error("WayAround", ant, got, ok)
		}
	}
	if n, ok := impl.MeetingsAround(c, 2); n != 1 || !ok {
		t.Error("MeetingsAround", n, ok)
	}
	if n, ok := impl.MeetingsAround(c, 0); n != 0 || !ok {
		t.Error("MeetingsAround 0", n, ok)
	}
}

func TestAntsThatGoPastThePlaceZero(t *testing.T) {
	for s, want := range map[string]string{"10@r8": "10@r2", "10@l2": "10@l8", "10@r6r8": "10@r0r2", "10@l0l2": "10@l6l8"} {
		c := mustCircle(t, s)
		if got, ok := impl.CircleAfter(c, 4); !ok || circleText(got) != want {
			t.Error("CircleAfter", s, circleText(got), ok)
		}
	}
	if list, ok := impl.AntsAround(mustCircle(t, "10@r6r8"), 2); !ok || !slices.Equal(list, antsOf(8, 1, 0, 1)) {
		t.Error("AntsAround", list, ok)
	}
	for s, want := range map[string]int{"10@r8": impl.MaxRounds, "10@l8": -impl.MaxRounds} {
		if got, ok := impl.WayAround(mustCircle(t, s), 0, impl.MaxRounds); !ok || got != want {
			t.Error("WayAround", s, got, ok)
		}
	}
}

func TestAntsThatHaveJustMet(t *testing.T) {
	c := mustCircle(t, "10@l4r4")
	if got, ok := impl.CircleAfter(c, 0); !ok || !sameCircle(got, c) {
		t.Error("CircleAfter 0", circleText(got), ok)
	}
	if n, ok := impl.NextMeeting(c); n != 5 || !ok {
		t.Error("NextMeeting", n, ok)
	}
	for time, want := range map[int]int{0: 0, 4: 0, 6: 1, 8: 1, 10: 2, impl.MaxRounds: 800} {
		if n, ok := impl.MeetingsAround(c, time); n != want || !ok {
			t.Error("MeetingsAround", time, n, ok)
		}
	}
	if gaps, ok := impl.GapsAround(c); !ok || !slices.Equal(gaps, []int{0, 10}) {
		t.Error("GapsAround", gaps, ok)
	}
	for name, turn := range map[string]func(impl.Circle) (impl.Circle, bool){"BackCircle": impl.BackCircle, "MirrorCircle": impl.MirrorCircle} {
		if got, ok := turn(mustCircle(t, "8@l4r4")); !ok || circleText(got) != "8@l4r4" {
			t.Error(name, circleText(got), ok)
		}
	}
}

func TestNextMeetings(t *testing.T) {
	for s, want := range map[string]int{"10@r0l2": 1, "10@r0l4": 2, "10@l0r2": 4, "10@l0r4": 3, "2@l0r0": 1, "400@l0r0": 200, "400@r0l398": 199, "10@r0l6r8": 3, "10@l0r2l8": 3} {
		if got, ok := impl.NextMeeting(mustCircle(t, s)); got != want || !ok {
			t.Error("NextMeeting", s, got, ok)
		}
	}
	for _, s := range []string{"10@", "10@r0", "10@l8", "10@r0r2r8", "10@l0l2l8"} {
		if got, ok := impl.NextMeeting(mustCircle(t, s)); got != 0 || ok {
			t.Error("NextMeeting", s, got, ok)
		}
	}
}

func TestCirclesWithNoAnts(t *testing.T) {
	for _, c := range []impl.Circle{{Length: 2}, {Length: impl.MaxAround, Ants: []impl.Ant{}}} {
		in := []circleArgs{{Circle: c}, {Circle: c, Time: impl.MaxRounds}}
		fails := []string{"WayAround", "ShiftInRound", "NextMeeting", "ParseCircle"}
		checkFails(t, circleCalls, in, fails...)
		checkSucceeds(t, circleCalls, in, namesBut(circleCalls, fails...)...)
		for _, name := range []string{"CircleAfter", "MirrorCircle", "SpinCircle", "BackCircle"} {
			if out, _ := chosen(t, circleCalls, name)[0].call(in[1]); !sameCircle(out[0].(impl.Circle), c) {
				t.Error(name, c, "is", out)
			}
		}
		for _, name := range []string{"MeetingsAround", "MeetingsInRound", "AntsAround", "GapsAround"} {
			if out, _ := chosen(t, circleCalls, name)[0].call(in[1]); !allZero(out) {
				t.Error(name, c, "is", out)
			}
		}
	}
}

func TestGapsAround(t *testing.T) {
	for _, c := range manyCircles() {
		gaps, ok := impl.GapsAround(c)
		if !ok || len(gaps) != len(c.Ants) {
			t.Fatalf("GapsAround(%s) = %v, %v", circleText(c), gaps, ok)
		}
		sum := 0
		for i, gap := range gaps {
			// Whoever goes on by the gap is where the next one stands.
			sum += gap
			if next := c.Ants[(i+1)%len(gaps)]; (c.Ants[i].At+gap)%c.Length != next.At || gap < 0 {
				t.Fatalf("GapsAround(%s) = %v", circleText(c), gaps)
			}
		}
		if sum != c.Length && len(gaps) > 0 {
			t.Fatalf("GapsAround(%s) = %v, not a round", circleText(c), gaps)
		}
	}
	for s, want := range map[string][]int{"10@r4": {10}, "10@l0": {10}, "2@l0r0": {0, 2}, "10@l0r0l8": {0, 8, 2}, "400@l0l398": {398, 2}} {
		if gaps, ok := impl.GapsAround(mustCircle(t, s)); !ok || !slices.Equal(gaps, want) {
			t.Error("GapsAround", s, gaps, ok)
		}
	}
}

// putAnew returns a circle whose ants have been put somewhere else, one by one.
func putAnew(c impl.Circle, put func(impl.Ant) impl.Ant) impl.Circle {
	w := aroundWalk{length: c.Length, states: [][]impl.Ant{nil}}
	for _, a := range c.Ants {
		w.states[0] = append(w.states[0], put(a))
	}
	return impl.Circle{Length: c.Length, Ants: w.anew(0)}
}

func TestMirrorCircle(t *testing.T) {
	for _, c := range manyCircles() {
		want := putAnew(c, func(a impl.Ant) impl.Ant {
			if a.At > 0 {
				a.At = c.Length - a.At
			}
			return antAt(a.At, -a.Way)
		})
		got, ok := impl.MirrorCircle(c)
		if !ok || !sameCircle(got, want) || !impl.IsCircle(got) {
			t.Fatalf("MirrorCircle(%s) = %s, %v, not %s", circleText(c), circleText(got), ok, circleText(want))
		}
		before, _ := impl.CircleAfter(got, 6)
		behind, _ := impl.CircleAfter(c, 6)
		if mirror, _ := impl.MirrorCircle(behind); !sameCircle(before, mirror) {
			t.Fatalf("CircleAfter of the mirror of %s is %s, not %s", circleText(c), circleText(before), circleText(mirror))
		}
	}
	for s, want := range map[string]string{"10@r0": "10@l0", "10@l0r0l4": "10@l0r0r6", "10@r2l8": "10@r2l8", "10@l0r2l4r4": "10@r0l6r6l8"} {
		if got, ok := impl.MirrorCircle(mustCircle(t, s)); !ok || circleText(got) != want {
			t.Error("MirrorCircle", s, circleText(got), ok)
		}
	}
}

func TestSpinCircle(t *testing.T) {
	for _, c := range manyCircles() {
		for by := 0; by < c.Length; by += 2 {
			want := putAnew(c, func(a impl.Ant) impl.Ant { return antAt(a.At+by, a.Way) })
			if got, ok := impl.SpinCircle(c, by); !ok || !sameCircle(got, want) || !impl.IsCircle(got) {
				t.Fatalf("SpinCircle(%s, %d) = %s, %v, not %s", circleText(c), by, circleText(got), ok, circleText(want))
			}
		}
		for _, by := range badSpins(c.Length) {
			if got, ok := impl.SpinCircle(c, by); ok || !sameCircle(got, impl.Circle{}) {
				t.Fatalf("SpinCircle(%s, %d) = %s, %v", circleText(c), by, circleText(got), ok)
			}
		}
	}
	if got, ok := impl.SpinCircle(mustCircle(t, "10@l0r0r4l8"), 8); !ok || circleText(got) != "10@r2l6l8r8" {
		t.Error("SpinCircle", circleText(got), ok)
	}
}

// badSpins returns numbers by which no circle with a length can be spun.
func badSpins(length int) []int {
	return []int{math.MinInt, -length, -2, -1, 1, length - 1, length, length + 1, length + 2, math.MaxInt - 1, math.MaxInt}
}

func TestBackCircle(t *testing.T) {
	for _, c := range manyCircles() {
		back, ok := impl.BackCircle(c)
		want := putAnew(c, func(a impl.Ant) impl.Ant { return antAt(a.At, -a.Way) })
		if !ok || !sameCircle(back, want) || !impl.IsCircle(back) {
			t.Fatalf("BackCircle(%s) = %s, %v, not %s", circleText(c), circleText(back), ok, circleText(want))
		}
		for _, time := range []int{2, 8, 50} {
			later, _ := impl.CircleAfter(c, time)
			turned, _ := impl.BackCircle(later)
			if led, _ := impl.CircleAfter(turned, time); !sameCircle(led, back) {
				t.Fatalf("BackCircle(%s) is %s, but %s behind %d", circleText(later), circleText(turned), circleText(led), time)
			}
		}
	}
	if got, ok := impl.BackCircle(mustCircle(t, "10@r0l4r4l8")); !ok || circleText(got) != "10@l0l4r4r8" {
		t.Error("BackCircle", circleText(got), ok)
	}
}

func TestLimitsOfCirclesMetExactly(t *testing.T) {
	c := fullCircle()
	if !impl.IsCircle(c) {
		t.Fatal("IsCircle of the greatest length and the most ants")
	}
	if got, ok := impl.CircleAfter(c, impl.MaxRounds); !ok || !sameCircle(got, c) {
		t.Error("CircleAfter", circleText(got), ok)
	}
	if n, ok := impl.MeetingsAround(c, impl.MaxRounds); n != 10*2*64 || !ok {
		t.Error("MeetingsAround", n, ok)
	}
	if s, ok := impl.CircleText(c); !ok || s != circleText(c) {
		t.Error("CircleText", s, ok)
	}
	if got, ok := impl.ParseCircle(circleText(c)); !ok || !sameCircle(got, c) {
		t.Error("ParseCircle", got, ok)
	}
	if got, ok := impl.SpinCircle(mustCircle(t, "400@l398"), 398); !ok || circleText(got) != "400@l396" {
		t.Error("SpinCircle", circleText(got), ok)
	}
	if way, ok := impl.WayAround(mustCircle(t, "400@r398"), 0, impl.MaxRounds); way != impl.MaxRounds || !ok {
		t.Error("WayAround", way, ok)
	}
}

// isCircleByPlaces says the same as IsCircle from the lists of ways at each place.
func isCircleByPlaces(c impl.Circle) bool {
	for _, a := range c.Ants {
		if a.At == c.Length {
			return false
		}
	}
	return c.Length <= 400 && isRodByPlaces(impl.Rod(c))
}

func TestIsCircleOfAnyNumbers(t *testing.T) {
	eachFewAnts(func(length int, list ...impl.Ant) {
		c := impl.Circle{Length: length, Ants: list}
		if got, want := impl.IsCircle(c), isCircleByPlaces(c); got != want {
			t.Fatalf("IsCircle(%v) = %v", c, got)
		}
	})
	for _, c := range noCircles() {
		if impl.IsCircle(c) {
			t.Error("IsCircle", c)
		}
	}
	for _, c := range manyCircles() {
		if !impl.IsCircle(c) {
			t.Error("IsCircle", c)
		}
	}
}

func TestCircleTextAndParseCircle(t *testing.T) {
	for _, c := range manyCircles() {
		s, ok := impl.CircleText(c)
		if !ok || s != circleText(c) {
			t.Fatalf("CircleText(%s) = %s, %v", circleText(c), s, ok)
		}
		if got, fine := impl.ParseCircle(s); !fine || !sameCircle(got, c) {
			t.Fatalf("ParseCircle(%s) = %s, %v", s, circleText(got), fine)
		}
	}
}

// isCircleTextByForm says the same as ParseCircle from the form of a text and its numbers.
func isCircleTextByForm(s string) bool {
	if strings.Contains(s, ":") || !isRodTextByForm(strings.Replace(s, "@", ":", 1)) {
		return false
	}
	length, ants, _ := strings.Cut(s, "@")
	atEnd := strings.HasSuffix(ants, "l"+length) || strings.HasSuffix(ants, "r"+length)
	return !atEnd && (len(length) < 3 || length <= "400" && len(length) == 3)
}

func TestEveryShortTextOfCircles(t *testing.T) {
	eachShortText("0124:@lr- x", func(s string) {
		if _, ok := impl.ParseCircle(s); ok != isCircleTextByForm(s) {
			t.Fatalf("ParseCircle(%q): %v", s, ok)
		}
	})
}

func TestCircleTextsWithOneSignChanged(t *testing.T) {
	for _, s := range []string{"10@r2l6r8", "400@l4r4l300r398", "2@l0r0"} {
		for _, changed := range withOneSignChanged(s, "0123456789:@lr-+ x") {
			c, ok := impl.ParseCircle(changed)
			if ok != isCircleTextByForm(changed) || ok && circleText(c) != changed {
				t.Fatalf("ParseCircle(%q) = %v, %v", changed, c, ok)
			}
		}
	}
}

func TestTextsThatAreNoCircleText(t *testing.T) {
	texts := []string{
		"", "@", "10", "10:", "10:r2", "10@@", "10@:", "10:@", ":10@", "@10", "10@r2@", "10@r2:l4", "10@r2@l4", "10@r2:", "r2@10",
		"0@", "1@", "3@", "-2@", "401@", "402@", "1000@", "010@", "+10@", " 10@", "10 @", "10@ ", "10@\n", "10@r2\n", "\x0010@", "10@\x00",
		"10@r", "10@2", "10@R2", "10@r02", "10@r-2", "10@r+2", "10@r1", "10@l10", "10@r10", "10@r12", "400@l400", "2@l2", "2@r2", "2@l0l0", "2@r0l0", "10@r4l4", "10@r4r4", "10@l4l4", "10@l4r4r4", "10@l4l2",
		"10@r18446744073709551618", "18446744073709551626@r2", "9223372036854775808@", "10＠r2",
		"400@" + strings.Repeat("r2", 17), strings.Repeat("@", 100000), "10@" + strings.Repeat("l4r4", 100000), strings.Repeat("1", 100000) + "@", "10@r" + strings.Repeat("0", 100000),
	}
	many := fullCircle()
	many.Ants = append(many.Ants, antAt(398, 1))
	for _, s := range append(texts, circleText(many)) {
		if c, ok := impl.ParseCircle(s); ok || !sameCircle(c, impl.Circle{}) {
			t.Errorf("ParseCircle(%.60q) = %v, %v", s, c, ok)
		}
	}
	for _, s := range []string{"2@", "400@", "2@l0r0", "400@l398r398", "10@l8"} {
		if c, ok := impl.ParseCircle(s); !ok || circleText(c) != s {
			t.Errorf("ParseCircle(%q) = %v, %v", s, c, ok)
		}
	}
}
