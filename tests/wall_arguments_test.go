package tests

import (
	"math"
	"testing"

	"loop.example/g01270/impl"
)

// wallArgs are all arguments that a function of chapter 6 may take.
type wallArgs struct {
	Rod   impl.Rod
	Ant   int
	Time  int
	Place int
}

var wallCalls = []namedCall[wallArgs]{
	{"IsBox", func(a wallArgs) ([]any, bool) { return nil, impl.IsBox(a.Rod) }},
	{"BoxAfter", func(a wallArgs) ([]any, bool) { x, ok := impl.BoxAfter(a.Rod, a.Time); return []any{x}, ok }},
	{"BoxPlace", func(a wallArgs) ([]any, bool) { x, ok := impl.BoxPlace(a.Rod, a.Ant, a.Time); return []any{x}, ok }},
	{"BoxWay", func(a wallArgs) ([]any, bool) { x, ok := impl.BoxWay(a.Rod, a.Ant, a.Time); return []any{x}, ok }},
	{"KnocksBy", func(a wallArgs) ([]any, bool) { x, y, ok := impl.KnocksBy(a.Rod, a.Time); return []any{x, y}, ok }},
	{"KnocksOf", func(a wallArgs) ([]any, bool) { x, ok := impl.KnocksOf(a.Rod, a.Ant, a.Time); return []any{x}, ok }},
	{"FirstKnocks", func(a wallArgs) ([]any, bool) { x, y, ok := impl.FirstKnocks(a.Rod); return []any{x, y}, ok }},
	{"BoxMeetings", func(a wallArgs) ([]any, bool) { x, ok := impl.BoxMeetings(a.Rod, a.Time); return []any{x}, ok }},
	{"BoxPeriod", func(a wallArgs) ([]any, bool) { x, ok := impl.BoxPeriod(a.Rod); return []any{x}, ok }},
	{"HalfwayBox", func(a wallArgs) ([]any, bool) { x, ok := impl.HalfwayBox(a.Rod); return []any{x}, ok }},
	{"VisitsOf", func(a wallArgs) ([]any, bool) { x, ok := impl.VisitsOf(a.Rod, a.Place); return []any{x}, ok }},
	{"NextKnockOf", func(a wallArgs) ([]any, bool) { x, ok := impl.NextKnockOf(a.Rod, a.Ant); return []any{x}, ok }},
	{"RoundOfBox", func(a wallArgs) ([]any, bool) { x, ok := impl.RoundOfBox(a.Rod); return []any{x}, ok }},
}

// noBoxes returns boxes that are none: whatever is no rod, and rods with an ant at a wall that goes towards it.
func noBoxes() []impl.Rod {
	boxes := noRods()
	for _, length := range []int{2, 4, 10, 198, impl.MaxLength} {
		for _, list := range [][]impl.Ant{
			antsOf(0, -1), antsOf(length, 1), antsOf(0, -1, 0, 1), antsOf(length, -1, length, 1), antsOf(0, -1, length, 1), antsOf(0, -1, length, -1), antsOf(0, 1, length, 1),
			antsOf(0, -1, 0, 1, length, -1), antsOf(0, 1, length, -1, length, 1), antsOf(0, -1, 2, -1), antsOf(length-2, 1, length, 1), antsOf(0, -1, 0, 1, length, -1, length, 1),
		} {
			boxes = append(boxes, impl.Rod{Length: length, Ants: list})
		}
	}
	left, right := crowdedRod(), crowdedRod()
	left.Ants[0].Way = -1
	right.Ants[impl.MaxAnts-1].Way = 1
	return append(boxes, left, right)
}

// badPlaces returns numbers that are no even places of a rod with a length.
func badPlaces(length int) []int {
	return []int{math.MinInt, math.MinInt + 1, -length, -2, -1, 1, 3, length - 1, length + 1, length + 2, 2 * length, math.MaxInt - 1, math.MaxInt}
}

func manyWallArgs(t *testing.T) []wallArgs {
	boxes := append(noBoxes(), crowdedRod(), evenBox(16, 16, 0), evenBox(200, 16, 2))
	for _, s := range []string{"2:", "2:r0", "2:l2", "2:r0l2", "6:r2l4", "10:l4r4", "10:r2l6r8", "200:r0l100r100l200", "202:r0l202", "1000:r0l1000"} {
		boxes = append(boxes, mustRod(t, s))
	}
	var list []wallArgs
	for _, r := range boxes {
		for _, ant := range append(badAnts(len(r.Ants)), 0, 1, len(r.Ants)-1) {
			for _, time := range []int{math.MinInt, -2, -1, 0, 1, 2, 8, 1000, 1999, lastTime, lastTime + 2, math.MaxInt} {
				list = append(list, wallArgs{r, ant, time, time})
			}
		}
		for _, place := range append(badPlaces(10), 0, 2, 10) {
			list = append(list, wallArgs{Rod: r, Place: place})
		}
	}
	return list
}

func TestBoxesNeverPanicAndFailuresAreZero(t *testing.T) {
	checkFailuresAreZero(t, wallCalls, manyWallArgs(t))
}

func TestBoxesKeepArguments(t *testing.T) {
	checkArgumentsAreKept(t, wallCalls, manyWallArgs(t))
}

func TestFunctionsThatRequireBoxes(t *testing.T) {
	var list []wallArgs
	for _, r := range noBoxes() {
		list = append(list, wallArgs{Rod: r}, wallArgs{Rod: r, Ant: len(r.Ants) - 1, Time: 2, Place: 2})
	}
	checkFails(t, wallCalls, list, namesBut(wallCalls)...)
	good := []wallArgs{{Rod: mustRod(t, "2:r0l2")}, {Rod: mustRod(t, "6:r2l4")}, {Rod: mustRod(t, "10:l4r4")}, {Rod: mustRod(t, "200:r0l200")}}
	checkSucceeds(t, wallCalls, good, namesBut(wallCalls)...)
	checkSucceeds(t, wallCalls, []wallArgs{{Rod: crowdedRod()}, {Rod: mustRod(t, "1000:r0l1000")}}, namesBut(wallCalls, "RoundOfBox")...)
}

func TestFunctionsThatRequireTimesInBoxes(t *testing.T) {
	names := []string{"BoxAfter", "BoxPlace", "BoxWay", "KnocksBy", "KnocksOf", "BoxMeetings"}
	for _, r := range []impl.Rod{mustRod(t, "6:r2l4"), mustRod(t, "2:r0"), crowdedRod()} {
		var list []wallArgs
		for _, time := range badTimes {
			list = append(list, wallArgs{Rod: r, Time: time})
		}
		checkFails(t, wallCalls, list, names...)
		checkSucceeds(t, wallCalls, []wallArgs{{Rod: r, Time: 0}, {Rod: r, Time: 2}, {Rod: r, Time: lastTime}}, names...)
	}
	// With no ants a time is required all the same.
	empty := impl.Rod{Length: 10}
	for _, time := range badTimes {
		checkFails(t, wallCalls, []wallArgs{{Rod: empty, Time: time}}, names...)
	}
}

func TestFunctionsThatRequireAntsInBoxes(t *testing.T) {
	names := []string{"BoxPlace", "BoxWay", "KnocksOf", "NextKnockOf"}
	for _, r := range []impl.Rod{{Length: 10}, mustRod(t, "6:r2"), mustRod(t, "6:r2l4"), crowdedRod()} {
		var list []wallArgs
		for _, ant := range badAnts(len(r.Ants)) {
			list = append(list, wallArgs{Rod: r, Ant: ant, Time: 2})
		}
		checkFails(t, wallCalls, list, names...)
		if count := len(r.Ants); count > 0 {
			checkSucceeds(t, wallCalls, []wallArgs{{Rod: r, Ant: 0}, {Rod: r, Ant: count - 1}}, names...)
		}
	}
}

func TestFunctionsThatRequirePlacesInBoxes(t *testing.T) {
	for _, r := range []impl.Rod{{Length: 10}, mustRod(t, "6:r2l4"), mustRod(t, "2:r0l2"), crowdedRod()} {
		var list, good []wallArgs
		for _, place := range badPlaces(r.Length) {
			list = append(list, wallArgs{Rod: r, Place: place})
		}
		for place := 0; place <= r.Length; place += 2 {
			good = append(good, wallArgs{Rod: r, Place: place})
		}
		checkFails(t, wallCalls, list, "VisitsOf")
		checkSucceeds(t, wallCalls, good, "VisitsOf")
	}
}
