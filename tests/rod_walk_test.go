package tests

import (
	"fmt"
	"slices"
	"testing"

	"loop.example/g01270/impl"
)

// walker is an ant that is led step by step, without any ghost.
type walker struct {
	at, way  int
	fallen   bool
	fallTime int
}

// walk is what a rod's ants do, told at each whole time from 0 on.
type walk struct {
	states   [][]walker
	meetings int
}

const lastTime = 2 * impl.MaxLength

// walkOf leads the ants of a rod in steps of 1. All ants are at even places, or all at
// odd ones, so two that meet are in one place at a whole time.
func walkOf(r impl.Rod) walk {
	var now []walker
	for _, a := range r.Ants {
		now = append(now, walker{at: a.At, way: a.Way})
	}
	w := walk{}
	letFall(now, r.Length, 0)
	w.states = append(w.states, slices.Clone(now))
	for time := 1; time <= lastTime; time++ {
		for i := range now {
			if !now[i].fallen {
				now[i].at += now[i].way
			}
		}
		letFall(now, r.Length, time)
		w.meetings += letMeet(now)
		w.states = append(w.states, slices.Clone(now))
	}
	return w
}

func letFall(list []walker, length int, time int) {
	for i, a := range list {
		if !a.fallen && (a.at == 0 && a.way == -1 || a.at == length && a.way == 1) {
			list[i].fallen = true
			list[i].fallTime = time
		}
	}
}

func letMeet(list []walker) int {
	meetings := 0
	for i := 1; i < len(list); i++ {
		a, b := &list[i-1], &list[i]
		if !a.fallen && !b.fallen && a.at == b.at && a.way == 1 && b.way == -1 {
			a.way, b.way = -1, 1
			meetings++
		}
	}
	return meetings
}

// onRod returns the ants that are on the rod at a time.
func (w walk) onRod(time int) []impl.Ant {
	var list []impl.Ant
	for _, a := range w.states[time] {
		if !a.fallen {
			list = append(list, antAt(a.at, a.way))
		}
	}
	return list
}

func (w walk) atLast() []walker { return w.states[lastTime] }

// ghostPlaces returns the places of all that pass through each other and are still on the rod.
func ghostPlaces(r impl.Rod, time int) []int {
	var places []int
	for _, a := range r.Ants {
		at := a.At + a.Way*time
		if a.Way == -1 && at > 0 || a.Way == 1 && at < r.Length {
			places = append(places, at)
		}
	}
	slices.Sort(places)
	return places
}

func textOf(r impl.Rod) string {
	s := fmt.Sprintf("%d:", r.Length)
	for _, a := range r.Ants {
		s += fmt.Sprintf("%c%d", "l.r"[a.Way+1], a.At)
	}
	return s
}

func sameRod(a, b impl.Rod) bool { return a.Length == b.Length && slices.Equal(a.Ants, b.Ants) }

func antAt(at int, way int) impl.Ant { return impl.Ant{At: at, Way: way} }

// antsOf returns ants with places and ways that are told in turn.
func antsOf(numbers ...int) []impl.Ant {
	var list []impl.Ant
	for pair := range slices.Chunk(numbers, 2) {
		list = append(list, antAt(pair[0], pair[1]))
	}
	return list
}

func mustRod(t *testing.T, s string) impl.Rod {
	t.Helper()
	r, ok := impl.ParseRod(s)
	if !ok {
		t.Fatalf("ParseRod(%q) fails", s)
	}
	return r
}

// smallRods returns all rods with a length: at each even place there is no ant, one, or two.
func smallRods(length int) []impl.Rod {
	rods := []impl.Rod{{Length: length}}
	for at := 0; at <= length; at += 2 {
		left, right := antAt(at, -1), antAt(at, 1)
		var more []impl.Rod
		for _, r := range rods {
			for _, here := range [][]impl.Ant{nil, {left}, {right}, {left, right}} {
				more = append(more, impl.Rod{Length: length, Ants: slices.Concat(r.Ants, here)})
			}
		}
		rods = more
	}
	return rods
}

// dice gives numbers that look like chance and are the same each time.
type dice uint64

func (d *dice) below(n int) int {
	*d = *d*6364136223846793005 + 1442695040888963407
	return int(uint64(*d>>33) % uint64(n))
}

// thrownRods returns rods of many lengths, with up to MaxAnts ants.
func thrownRods(count int) []impl.Rod {
	d := dice(7)
	var rods []impl.Rod
	for len(rods) < count {
		length := []int{16, 40, 400, impl.MaxLength}[d.below(4)]
		r := impl.Rod{Length: length}
		for range d.below(impl.MaxAnts + 1) {
			at := 2 * d.below(length/2+1)
			r.Ants = append(r.Ants, antAt(at, 2*d.below(2)-1))
		}
		slices.SortFunc(r.Ants, func(a, b impl.Ant) int { return 4*(a.At-b.At) + a.Way - b.Way })
		r.Ants = slices.Compact(r.Ants)
		rods = append(rods, r)
	}
	return rods
}

func crowdedRod() impl.Rod {
	r := impl.Rod{Length: impl.MaxLength}
	for i := range impl.MaxAnts / 2 {
		r.Ants = append(r.Ants, antAt(2*i, 1))
	}
	for i := range impl.MaxAnts / 2 {
		r.Ants = append(r.Ants, antAt(impl.MaxLength-impl.MaxAnts+2+2*i, -1))
	}
	return r
}

func manyRods() []impl.Rod {
	rods := []impl.Rod{crowdedRod()}
	for _, length := range []int{2, 4, 6} {
		rods = append(rods, smallRods(length)...)
	}
	return append(rods, thrownRods(150)...)
}
