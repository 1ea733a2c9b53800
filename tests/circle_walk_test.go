package tests

import (
	"fmt"
	"slices"
	"strings"
	"testing"

	"loop.example/g01270/impl"
)

// aroundWalk is what a circle's ants do, told at each whole time from 0 on. Places go on
// past the place 0, so that they tell how far an ant has gone.
type aroundWalk struct {
	length   int
	states   [][]impl.Ant
	meetings []int
}

// lastRound is later than the ants of any circle come back: in at most as many rounds as there are ants.
const lastRound = impl.MaxAround * impl.MaxAnts

// walkAround leads the ants of a circle in steps of 1, up to a time.
func walkAround(c impl.Circle, last int) aroundWalk {
	now := slices.Clone(c.Ants)
	w := aroundWalk{length: c.Length, states: [][]impl.Ant{slices.Clone(now)}, meetings: []int{0}}
	for range last {
		for i := range now {
			now[i].At += now[i].Way
		}
		w.meetings = append(w.meetings, letMeetAround(now, c.Length))
		w.states = append(w.states, slices.Clone(now))
	}
	return w
}

// letMeetAround turns those that meet: the last ant's next one is the first one, a round on.
func letMeetAround(list []impl.Ant, length int) int {
	meetings := 0
	for i := range list {
		next := (i + 1) % len(list)
		ahead := list[next].At
		if next == 0 {
			ahead += length
		}
		if list[i].At == ahead && list[i].Way == 1 && list[next].Way == -1 {
			list[i].Way, list[next].Way = -1, 1
			meetings++
		}
	}
	return meetings
}

// inOrder returns the ants at a time, in the order in which they are told at first.
func (w aroundWalk) inOrder(time int) []impl.Ant {
	list := slices.Clone(w.states[time])
	for i := range list {
		for list[i].At < 0 {
			list[i].At += w.length
		}
		for list[i].At >= w.length {
			list[i].At -= w.length
		}
	}
	return list
}

// anew returns the ants at a time, in the order of places.
func (w aroundWalk) anew(time int) []impl.Ant {
	list := w.inOrder(time)
	slices.SortFunc(list, func(a, b impl.Ant) int { return 4*(a.At-b.At) + a.Way - b.Way })
	return list
}

func circleText(c impl.Circle) string {
	return strings.Replace(textOf(impl.Rod(c)), ":", "@", 1)
}

func sameCircle(a, b impl.Circle) bool { return sameRod(impl.Rod(a), impl.Rod(b)) }

func mustCircle(t *testing.T, s string) impl.Circle {
	t.Helper()
	c, ok := impl.ParseCircle(s)
	if !ok {
		t.Fatalf("ParseCircle(%q) fails", s)
	}
	return c
}

// smallCircles returns all circles with a length.
func smallCircles(length int) []impl.Circle {
	circles := []impl.Circle{{Length: length}}
	if length > 2 {
		circles = nil
		for _, r := range smallRods(length - 2) {
			circles = append(circles, impl.Circle{Length: length, Ants: r.Ants})
		}
		return circles
	}
	for _, list := range [][]impl.Ant{antsOf(0, -1), antsOf(0, 1), antsOf(0, -1, 0, 1)} {
		circles = append(circles, impl.Circle{Length: length, Ants: list})
	}
	return circles
}

// thrownCircles returns circles of many lengths, with up to MaxAnts ants.
func thrownCircles(count int) []impl.Circle {
	d := dice(11)
	var circles []impl.Circle
	for len(circles) < count {
		length := []int{10, 16, 24, 100, impl.MaxAround}[d.below(5)]
		c := impl.Circle{Length: length}
		chosen := map[impl.Ant]bool{}
		for range d.below(impl.MaxAnts + 1) {
			chosen[antAt(2*d.below(length/2), 2*d.below(2)-1)] = true
		}
		for at := range length {
			for _, a := range antsOf(at, -1, at, 1) {
				if chosen[a] {
					c.Ants = append(c.Ants, a)
				}
			}
		}
		circles = append(circles, c)
	}
	return circles
}

// evenCircle returns a circle with as many ants, all as far from each other, of which so many go to the right.
func evenCircle(length, ants, rights int) impl.Circle {
	c := impl.Circle{Length: length}
	for i := range ants {
		way := -1
		if i < rights {
			way = 1
		}
		c.Ants = append(c.Ants, antAt(i*(length/ants/2)*2, way))
	}
	return c
}

// fullCircle has the greatest length, and the most ants, two in each place.
func fullCircle() impl.Circle {
	c := impl.Circle{Length: impl.MaxAround}
	for i := range impl.MaxAnts / 2 {
		c.Ants = append(c.Ants, antsOf(50*i, -1, 50*i, 1)...)
	}
	return c
}

func manyCircles() []impl.Circle {
	circles := []impl.Circle{
		fullCircle(),
		evenCircle(400, 16, 16), evenCircle(400, 16, 0), evenCircle(400, 16, 8), evenCircle(400, 16, 9), evenCircle(400, 15, 8), evenCircle(400, 13, 7), evenCircle(400, 1, 1), evenCircle(400, 2, 1),
		evenCircle(24, 4, 4), evenCircle(24, 4, 0), evenCircle(24, 12, 12), evenCircle(24, 6, 3), evenCircle(32, 16, 16), evenCircle(32, 16, 5),
		{Length: 24, Ants: antsOf(0, 1, 4, -1, 8, 1, 12, -1, 16, 1, 20, -1)},
		{Length: 24, Ants: antsOf(0, 1, 2, 1, 6, -1, 12, 1, 14, 1, 18, -1)},
		{Length: impl.MaxAround, Ants: antsOf(0, -1, 0, 1, 398, -1, 398, 1)},
	}
	for _, length := range []int{2, 4, 6, 8} {
		circles = append(circles, smallCircles(length)...)
	}
	return append(circles, thrownCircles(120)...)
}

// eachWalk runs a check with each circle and its walk.
func eachWalk(t *testing.T, last int, check func(t *testing.T, c impl.Circle, w aroundWalk)) {
	t.Helper()
	for _, c := range manyCircles() {
		check(t, c, walkAround(c, last))
		if t.Failed() {
			t.Fatal(fmt.Sprintf("the circle is %s", circleText(c)))
		}
	}
}
