package tests

import (
	"fmt"
	"math/big"
	"slices"
	"testing"

	"loop.example/g01270/impl"
)

// raceStage is the time 0 or one at which some runners meet: where all are then, their
// paces just behind, and how many others each one meets.
type raceStage struct {
	time   *big.Rat
	places []*big.Rat
	paces  []int
	others []int
}

// race is what runners do, stage by stage, without any ghost.
type race struct{ stages []raceStage }

// raceOf leads runners from meeting to meeting: two beside each other meet next, and all
// in one place then turn the order of their paces around.
func raceOf(list []impl.Runner) race {
	first := raceStage{time: new(big.Rat), others: make([]int, len(list))}
	for _, r := range list {
		first.places = append(first.places, big.NewRat(int64(r.At), 1))
		first.paces = append(first.paces, r.Pace)
	}
	w := race{stages: []raceStage{first}}
	for {
		now := w.stages[len(w.stages)-1]
		lasts := now.untilNext()
		if lasts == nil {
			return w
		}
		w.stages = append(w.stages, now.next(lasts))
	}
}

// untilNext returns how long it lasts until some meet, or nil if they never do.
func (s raceStage) untilNext() *big.Rat {
	var least *big.Rat
	for i := 1; i < len(s.paces); i++ {
		faster := s.paces[i-1] - s.paces[i]
		if faster <= 0 {
			continue
		}
		apart := new(big.Rat).Sub(s.places[i], s.places[i-1])
		lasts := apart.Quo(apart, big.NewRat(int64(faster), 1))
		if least == nil || lasts.Cmp(least) < 0 {
			least = lasts
		}
	}
	return least
}

// placesIn returns where the runners are when they have gone on with their paces.
func (s raceStage) placesIn(lasts *big.Rat) []*big.Rat {
	var places []*big.Rat
	for i, place := range s.places {
		far := new(big.Rat).Mul(lasts, big.NewRat(int64(s.paces[i]), 1))
		places = append(places, far.Add(far, place))
	}
	return places
}

func (s raceStage) next(lasts *big.Rat) raceStage {
	n := raceStage{time: new(big.Rat).Add(s.time, lasts), places: s.placesIn(lasts), paces: slices.Clone(s.paces), others: make([]int, len(s.paces))}
	for from := 0; from < len(n.places); {
		to := from + 1
		for to < len(n.places) && n.places[to].Cmp(n.places[from]) == 0 {
			to++
		}
		slices.Reverse(n.paces[from:to])
		for i := from; i < to; i++ {
			n.others[i] = to - from - 1
		}
		from = to
	}
	return n
}

// at returns the last stage up to a time.
func (w race) at(time *big.Rat) raceStage {
	last := w.stages[0]
	for _, s := range w.stages {
		if s.time.Cmp(time) <= 0 {
			last = s
		}
	}
	return last
}

func (w race) placesAt(time *big.Rat) []*big.Rat {
	s := w.at(time)
	return s.placesIn(new(big.Rat).Sub(time, s.time))
}

// pairsBy returns how many pairs meet up to a time: of those in one place each one meets each other one.
func (w race) pairsBy(time *big.Rat) int {
	twice := 0
	for _, s := range w.stages {
		if s.time.Cmp(time) <= 0 {
			twice += sumOf(s.others)
		}
	}
	return twice / 2
}

func (w race) meetsOf(k int) int {
	meets := 0
	for _, s := range w.stages {
		meets += s.others[k]
	}
	return meets
}

// last returns the stage behind which nobody meets.
func (w race) last() raceStage { return w.stages[len(w.stages)-1] }

// meetTimes returns all times at which some meet.
func (w race) meetTimes() []impl.Moment {
	var times []impl.Moment
	for _, s := range w.stages[1:] {
		m, _ := momentOf(s.time)
		times = append(times, m)
	}
	return times
}

// looks returns the times of all stages, and times just ahead of each one, just behind it and between it and the next one.
func (w race) looks() []impl.Moment {
	var list []impl.Moment
	add := func(time *big.Rat) {
		if m, ok := momentOf(time); ok && m.Num >= 0 {
			list = append(list, m)
		}
	}
	for i, s := range w.stages {
		den := s.time.Denom().Int64()
		little := big.NewRat(1, 1000/den*den)
		add(s.time)
		add(new(big.Rat).Sub(s.time, little))
		add(new(big.Rat).Add(s.time, little))
		next := new(big.Rat).Add(s.time, big.NewRat(2, 1))
		if i+1 < len(w.stages) {
			next = w.stages[i+1].time
		}
		sum := new(big.Rat).Add(s.time, next)
		add(sum.Quo(sum, big.NewRat(2, 1)))
	}
	return append(list, impl.Moment{Num: 1000, Den: 1}, impl.Moment{Num: 111111, Den: 1}, impl.Moment{Num: 1000000, Den: 1}, impl.Moment{Num: 1, Den: 1000}, impl.Moment{Num: 999999, Den: 1000})
}

// momentOf returns a fraction as a moment, if it is one: big.Rat keeps it in lowest terms.
func momentOf(x *big.Rat) (impl.Moment, bool) {
	if !x.Num().IsInt64() || !x.Denom().IsInt64() {
		return impl.Moment{}, false
	}
	num, den := x.Num().Int64(), x.Denom().Int64()
	if max(num, -num) > 1000000 || den > 1000 {
		return impl.Moment{}, false
	}
	return impl.Moment{Num: int(num), Den: int(den)}, true
}

// momentsOf returns fractions as moments, if all of them are some.
func momentsOf(list []*big.Rat) ([]impl.Moment, bool) {
	var moments []impl.Moment
	for _, x := range list {
		m, ok := momentOf(x)
		if !ok {
			return nil, false
		}
		moments = append(moments, m)
	}
	return moments, true
}

func ratOf(m impl.Moment) *big.Rat { return big.NewRat(int64(m.Num), int64(m.Den)) }

func sumOf(list []int) int {
	sum := 0
	for _, n := range list {
		sum += n
	}
	return sum
}

// runnersOf returns runners with places and paces that are told in turn.
func runnersOf(numbers ...int) []impl.Runner {
	var list []impl.Runner
	for pair := range slices.Chunk(numbers, 2) {
		list = append(list, impl.Runner{At: pair[0], Pace: pair[1]})
	}
	return list
}

// smallRunners returns all runners at some of the places 0..3 with a pace of a size of at most 2.
func smallRunners() [][]impl.Runner {
	lists := [][]impl.Runner{nil}
	for at := range 4 {
		var more [][]impl.Runner
		for _, list := range lists {
			more = append(more, list)
			for pace := -2; pace <= 2; pace++ {
				more = append(more, slices.Concat(list, runnersOf(at, pace)))
			}
		}
		lists = more
	}
	return lists
}

// thrownRunners returns runners near each other and far from each other, with few paces and with many.
func thrownRunners(count int) [][]impl.Runner {
	d := dice(13)
	var lists [][]impl.Runner
	for len(lists) < count {
		places, paces := []int{12, 40, 1000}[d.below(3)], []int{1, 3, 9}[d.below(3)]
		chosen := map[int]bool{}
		for range d.below(impl.MaxRunners + 1) {
			chosen[d.below(places+1)] = true
		}
		var list []impl.Runner
		for at := range places + 1 {
			if chosen[at] {
				list = append(list, impl.Runner{At: at, Pace: d.below(2*paces+1) - paces})
			}
		}
		lists = append(lists, list)
	}
	return lists
}

// bunch returns as many runners that all meet in one place at the time 50.
func bunch(count int) []impl.Runner {
	var list []impl.Runner
	for i := range count {
		pace := 9 - i
		list = append(list, impl.Runner{At: 500 - 50*pace, Pace: pace})
	}
	return list
}

// manyRunners has lists of all kinds that the chapter tells of.
func manyRunners() [][]impl.Runner {
	lists := [][]impl.Runner{
		{},
		runnersOf(0, 2, 6, -1, 10, -2),
		bunch(impl.MaxRunners),
		bunch(3),
		runnersOf(0, 1, 5, 0, 10, -1),
		runnersOf(0, 1, 2, -1, 10, 1, 12, -1),
		runnersOf(0, 2, 3, 0, 6, -2, 20, 1, 22, 0, 24, -1, 26, -2),
		runnersOf(0, 9, 1000, -9),
		runnersOf(0, 1, 1000, 0),
		runnersOf(0, 9, 100, 9, 200, 9, 300, 9, 400, 9, 500, 9, 600, -9, 700, -9, 800, -9, 900, -9, 999, -9, 1000, -9),
		runnersOf(0, 9, 1, 8, 2, 7, 3, 6, 4, 5, 5, 4, 6, 3, 7, 2, 8, 1, 9, 0, 10, -1, 11, -2),
		runnersOf(0, 0, 100, 0, 200, 0),
		runnersOf(0, -3, 1, -3, 2, 0, 3, 4, 4, 4),
	}
	return slices.Concat(lists, smallRunners(), thrownRunners(250))
}

// eachRace runs a check with each list of runners and their race.
func eachRace(t *testing.T, check func(list []impl.Runner, w race)) {
	t.Helper()
	for _, list := range manyRunners() {
		check(list, raceOf(list))
		if t.Failed() {
			t.Fatal(fmt.Sprintf("the runners are %v", list))
		}
	}
}
