package tests

import (
	"slices"
	"testing"

	"loop.example/g01270/impl"
)

// metWalk is the walk of a rod's ants, with what they do when they meet.
type metWalk struct {
	walk
	meetings []impl.Meeting
}

// metWalkOf finds the meetings in a walk: two that are in one place behind the time 0
// have just come there from both sides.
func metWalkOf(t *testing.T, r impl.Rod) metWalk {
	t.Helper()
	w := metWalk{walk: walkOf(r)}
	for time := 1; time <= lastTime; time++ {
		now := w.states[time]
		for i := 1; i < len(now); i++ {
			if !now[i-1].fallen && !now[i].fallen && now[i-1].at == now[i].at {
				w.meetings = append(w.meetings, impl.Meeting{Time: time, Place: now[i].at, Left: i - 1})
			}
		}
	}
	if len(w.meetings) != w.walk.meetings {
		t.Fatalf("the walk of %s has %d meetings, not %v", textOf(r), w.walk.meetings, w.meetings)
	}
	return w
}

func meets(m impl.Meeting, ant int) bool { return m.Left == ant || m.Left == ant-1 }

func (w metWalk) ofAnt(ant int) []impl.Meeting {
	return slices.DeleteFunc(slices.Clone(w.meetings), func(m impl.Meeting) bool { return !meets(m, ant) })
}

// known tells of each ant whose news it knows at last.
func (w metWalk) known() [][]bool {
	all := make([][]bool, len(w.atLast()))
	for ant := range all {
		for _, time := range w.newsTimes(ant) {
			all[ant] = append(all[ant], time >= 0)
		}
	}
	return all
}

// newsTimes leads the news of an ant from meeting to meeting, time by time.
func (w metWalk) newsTimes(ant int) []int {
	times := make([]int, len(w.atLast()))
	for i := range times {
		times[i] = -1
	}
	times[ant] = 0
	for _, m := range w.meetings {
		a, b := &times[m.Left], &times[m.Left+1]
		if *a >= 0 && *b < 0 {
			*b = m.Time
		} else if *b >= 0 && *a < 0 {
			*a = m.Time
		}
	}
	return times
}

// knowing returns the ants that know by a time what is known at such times.
func knowing(times []int, time int) []int {
	var ants []int
	for ant, at := range times {
		if at >= 0 && at <= time {
			ants = append(ants, ant)
		}
	}
	return ants
}

// eachMetWalk runs a check with each rod and its walk.
func eachMetWalk(t *testing.T, check func(r impl.Rod, w metWalk)) {
	t.Helper()
	for _, r := range append(manyRods(), busyRod()) {
		check(r, metWalkOf(t, r))
		if t.Failed() {
			t.Fatal("the rod is", textOf(r))
		}
	}
}

// busyRod has ants that go to the right and to the left in turn, so that many meet at once.
func busyRod() impl.Rod {
	r := impl.Rod{Length: impl.MaxLength}
	for i := range impl.MaxAnts {
		r.Ants = append(r.Ants, antAt(60*i, 1-2*(i%2)))
	}
	return r
}
