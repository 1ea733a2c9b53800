package tests

import (
	"slices"
	"testing"

	"loop.example/g01270/impl"
)

// knock tells when an ant comes to which wall: 0 or the length.
type knock struct{ time, wall, ant int }

// boxWalk is what a box's ants do, told at each whole time from 0 on.
type boxWalk struct {
	states   [][]impl.Ant
	meetings []int
	knocks   []knock
}

// walkInBox leads the ants of a box in steps of 1, without any ghost. Each one has its
// own place in the list for ever.
func walkInBox(r impl.Rod) boxWalk {
	now := slices.Clone(r.Ants)
	w := boxWalk{states: [][]impl.Ant{slices.Clone(now)}, meetings: []int{0}}
	for time := 1; time <= lastTime; time++ {
		for i := range now {
			now[i].At += now[i].Way
		}
		w.meetings = append(w.meetings, w.meetings[time-1]+turnThoseThatMeet(now))
		for i, a := range now {
			if a.At == 0 || a.At == r.Length {
				w.knocks = append(w.knocks, knock{time, a.At, i})
				now[i].Way = -a.Way
			}
		}
		w.states = append(w.states, slices.Clone(now))
	}
	return w
}

func turnThoseThatMeet(list []impl.Ant) int {
	meetings := 0
	for i := 1; i < len(list); i++ {
		a, b := &list[i-1], &list[i]
		if a.At == b.At && a.Way == 1 && b.Way == -1 {
			a.Way, b.Way = -1, 1
			meetings++
		}
	}
	return meetings
}

// box returns the box of a walk as it is at a time.
func (w boxWalk) box(length, time int) impl.Rod {
	return impl.Rod{Length: length, Ants: w.states[time]}
}

// count returns how many knocks up to a time are as asked for.
func (w boxWalk) count(time int, asked func(knock) bool) int {
	n := 0
	for _, k := range w.knocks {
		if k.time <= time && asked(k) {
			n++
		}
	}
	return n
}

// first returns the time of the first knock that is as asked for, or -1.
func (w boxWalk) first(asked func(knock) bool) int {
	for _, k := range w.knocks {
		if asked(k) {
			return k.time
		}
	}
	return -1
}

func atWall(wall int) func(knock) bool { return func(k knock) bool { return k.wall == wall } }

func byAnt(ant int) func(knock) bool { return func(k knock) bool { return k.ant == ant } }

// hasWallAnt reports whether an ant is at a wall and goes towards it.
func hasWallAnt(r impl.Rod) bool {
	return slices.Contains(r.Ants, antAt(0, -1)) || slices.Contains(r.Ants, antAt(r.Length, 1))
}

// smallBoxes returns all boxes with a length.
func smallBoxes(length int) []impl.Rod {
	return slices.DeleteFunc(smallRods(length), hasWallAnt)
}

// thrownBoxes returns boxes of many lengths, with up to MaxAnts ants.
func thrownBoxes(count int) []impl.Rod {
	boxes := thrownRods(count)
	for i, r := range boxes {
		wrong := func(a impl.Ant) bool { return a == antAt(0, -1) || a == antAt(r.Length, 1) }
		boxes[i].Ants = slices.DeleteFunc(r.Ants, wrong)
	}
	return boxes
}

// evenBox has ants of which the ghosts are all as far from each other on their round.
func evenBox(length, ants, from int) impl.Rod {
	r := impl.Rod{Length: length}
	for i := range ants {
		far := from + i*2*length/ants
		if far < length {
			r.Ants = append(r.Ants, antAt(far, 1))
		} else {
			r.Ants = append(r.Ants, antAt(2*length-far, -1))
		}
	}
	slices.SortFunc(r.Ants, func(a, b impl.Ant) int { return 4*(a.At-b.At) + a.Way - b.Way })
	return r
}

func manyBoxes() []impl.Rod {
	boxes := []impl.Rod{
		crowdedRod(), busyRod(), evenBox(1000, 1, 0), evenBox(1000, 2, 0), evenBox(1000, 8, 2), evenBox(1000, 10, 100), evenBox(16, 16, 0), evenBox(32, 16, 2), evenBox(30, 15, 2), evenBox(200, 4, 6),
		{Length: impl.MaxLength}, {Length: impl.MaxLength, Ants: antsOf(0, 1, 1000, -1)}, {Length: impl.MaxLength, Ants: antsOf(500, -1, 500, 1)},
		{Length: 200, Ants: antsOf(0, 1, 2, -1, 2, 1, 198, -1, 198, 1, 200, -1)}, {Length: 202, Ants: antsOf(0, 1, 202, -1)},
	}
	for _, length := range []int{2, 4, 6, 8} {
		boxes = append(boxes, smallBoxes(length)...)
	}
	return append(boxes, thrownBoxes(120)...)
}

// eachBox runs a check with each box and its walk.
func eachBox(t *testing.T, check func(r impl.Rod, w boxWalk)) {
	t.Helper()
	for _, r := range manyBoxes() {
		check(r, walkInBox(r))
		if t.Failed() {
			t.Fatal("the box is", textOf(r))
		}
	}
}

// timesInBox returns all even times in the first round, and some up to the last one.
func timesInBox(length int) []int {
	var times []int
	for time := 0; time <= min(2*length+4, lastTime); time += 2 {
		if time < 40 || time%26 == 0 || time >= length-2 && time <= length+2 || time >= 2*length-2 {
			times = append(times, time)
		}
	}
	return append(times, 998, 1000, 1002, lastTime-2, lastTime)
}
