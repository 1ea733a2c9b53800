package tests

import (
	"math"
	"slices"
	"testing"

	"loop.example/g01270/impl"
)

// speedArgs are all arguments that a function of chapter 4 may take.
type speedArgs struct {
	List []impl.Runner
	Time impl.Moment
	K    int
	Pace int
}

var speedCalls = []namedCall[speedArgs]{
	{"AreRunners", func(a speedArgs) ([]any, bool) { return nil, impl.AreRunners(a.List) }},
	{"IsMoment", func(a speedArgs) ([]any, bool) { return nil, impl.IsMoment(a.Time) }},
	{"PlacesAt", func(a speedArgs) ([]any, bool) { x, ok := impl.PlacesAt(a.List, a.Time); return []any{x}, ok }},
	{"PacesBehind", func(a speedArgs) ([]any, bool) { x, ok := impl.PacesBehind(a.List, a.Time); return []any{x}, ok }},
	{"CountMeetsBy", func(a speedArgs) ([]any, bool) { x, ok := impl.CountMeetsBy(a.List, a.Time); return []any{x}, ok }},
	{"CountMeetsEver", func(a speedArgs) ([]any, bool) { x, ok := impl.CountMeetsEver(a.List); return []any{x}, ok }},
	{"FirstMeet", func(a speedArgs) ([]any, bool) { x, ok := impl.FirstMeet(a.List); return []any{x}, ok }},
	{"LastMeet", func(a speedArgs) ([]any, bool) { x, ok := impl.LastMeet(a.List); return []any{x}, ok }},
	{"MeetMoments", func(a speedArgs) ([]any, bool) { x, ok := impl.MeetMoments(a.List); return []any{x}, ok }},
	{"FinalPaces", func(a speedArgs) ([]any, bool) { x, ok := impl.FinalPaces(a.List); return []any{x}, ok }},
	{"MeetsOf", func(a speedArgs) ([]any, bool) { x, ok := impl.MeetsOf(a.List, a.K); return []any{x}, ok }},
	{"MiddleAt", func(a speedArgs) ([]any, bool) { x, ok := impl.MiddleAt(a.List, a.Time); return []any{x}, ok }},
	{"KeptSums", func(a speedArgs) ([]any, bool) { x, y, ok := impl.KeptSums(a.List); return []any{x, y}, ok }},
	{"WatchFrom", func(a speedArgs) ([]any, bool) { x, ok := impl.WatchFrom(a.List, a.Pace); return []any{x}, ok }},
	{"FromBehind", func(a speedArgs) ([]any, bool) { x, ok := impl.FromBehind(a.List); return []any{x}, ok }},
}

// noRunners returns lists that are no runners.
func noRunners() [][]impl.Runner {
	many := append(bunch(impl.MaxRunners), impl.Runner{At: 1000, Pace: 1})
	lists := [][]impl.Runner{many, make([]impl.Runner, 500)}
	for _, at := range []int{math.MinInt, -1000, -1, 1001, 1000000, math.MaxInt} {
		lists = append(lists, runnersOf(at, 0))
	}
	for _, pace := range []int{math.MinInt, -1000, -10, 10, 1000, math.MaxInt} {
		lists = append(lists, runnersOf(4, pace), runnersOf(0, 1, 4, pace))
	}
	return append(lists,
		runnersOf(4, 1, 4, 1), runnersOf(4, -1, 4, 1), runnersOf(4, 1, 4, -1), runnersOf(4, 1, 2, 1), runnersOf(0, 0, 1, 0, 1, 0), runnersOf(0, 0, 5, 0, 1, 0),
		runnersOf(-1, 0, 4, 1), runnersOf(0, 1, 1001, 1), runnersOf(0, 10, 4, 1), runnersOf(math.MaxInt, 1, math.MinInt, 1), runnersOf(math.MinInt, math.MaxInt, math.MaxInt, math.MinInt),
	)
}

// noMoments returns fractions that are no moments: not in lowest terms, or out of their limits.
func noMoments() []impl.Moment {
	list := fractions(0, 0, 1, 0, -1, 0, 0, 2, 0, 1000, 0, -1, 2, 4, 2, 2, -2, 4, 10, 5, 1000, 1000, 1000000, 1000, 999998, 1000)
	list = append(list, fractions(1000001, 1, -1000001, 1, 1000001, 2, 1000001, 1000, 1, 1001, -1, 1001, 0, 1001, 1, -1, -1, -1, 1, -2, 1, -1000)...)
	for _, far := range []int{math.MinInt, math.MinInt + 1, math.MaxInt} {
		list = append(list, fractions(far, 1, 1, far, far, far, 0, far, far, 0, far, -1)...)
	}
	return list
}

// noTimes returns what is no moment, and moments less than 0.
func noTimes() []impl.Moment {
	return append(noMoments(), fractions(-1, 1, -1, 2, -5, 2, -1, 1000, -1000000, 1, -999999, 1000)...)
}

func goodTimes() []impl.Moment {
	return fractions(0, 1, 1, 1, 2, 1, 5, 2, 50, 1, 1, 1000, 999999, 1000, 1000000, 999, 1000000, 1)
}

// tooGreatPaces returns paces beyond the limit of a pace.
func tooGreatPaces() []int {
	return []int{10, -10, 11, -11, 18, -18, 19, -19, 1000, -1000, math.MinInt, math.MinInt + 9, math.MaxInt - 9, math.MaxInt}
}

func badRunners(n int) []int { return []int{math.MinInt, -1, n, n + 1, impl.MaxRunners, math.MaxInt} }

// manySpeedArgs returns arguments that are valid, that are not, and both mixed.
func manySpeedArgs() []speedArgs {
	lists := append(noRunners(), nil, runnersOf(7, -3), runnersOf(0, 2, 6, -1, 10, -2), runnersOf(0, 0, 5, 0), runnersOf(0, 9, 1000, -9), runnersOf(0, 1, 5, 0, 10, -1), bunch(impl.MaxRunners))
	var all []speedArgs
	for _, list := range lists {
		for _, time := range append(noTimes(), goodTimes()...) {
			all = append(all, speedArgs{List: list, Time: time})
		}
		for _, k := range append(badRunners(len(list)), 0, 1, 11) {
			all = append(all, speedArgs{List: list, Time: moment(2, 1), K: k})
		}
		for _, pace := range append(tooGreatPaces(), -9, -1, 0, 1, 9) {
			all = append(all, speedArgs{List: list, Time: moment(5, 2), Pace: pace})
		}
	}
	return all
}

func TestSpeedsNeverPanicAndFailuresAreZero(t *testing.T) {
	checkFailuresAreZero(t, speedCalls, manySpeedArgs())
}

func TestSpeedsKeepArguments(t *testing.T) {
	all := manySpeedArgs()
	for _, list := range thrownRunners(40) {
		for k := range list {
			all = append(all, speedArgs{List: list, Time: moment(7, 2), K: k})
		}
	}
	checkArgumentsAreKept(t, speedCalls, all)
}

func TestFunctionsThatRequireRunners(t *testing.T) {
	var all []speedArgs
	for _, list := range noRunners() {
		all = append(all, speedArgs{List: list, Time: moment(2, 1)}, speedArgs{List: list, Time: moment(0, 1)})
	}
	checkFails(t, speedCalls, all, namesBut(speedCalls, "IsMoment")...)
	checkSucceeds(t, speedCalls, []speedArgs{{List: runnersOf(0, 2, 6, -1, 10, -2), Time: moment(2, 1)}}, namesBut(speedCalls)...)
}

func TestFunctionsThatRequireTimesOfRunners(t *testing.T) {
	list := runnersOf(0, 2, 6, -1, 10, -2)
	names := []string{"PlacesAt", "PacesBehind", "CountMeetsBy", "MiddleAt"}
	for _, runners := range [][]impl.Runner{list, runnersOf(4, 0), bunch(impl.MaxRunners)} {
		var all []speedArgs
		for _, time := range noTimes() {
			all = append(all, speedArgs{List: runners, Time: time})
		}
		checkFails(t, speedCalls, all, names...)
	}
	still := runnersOf(0, 0, 5, 0)
	var all []speedArgs
	for _, time := range goodTimes() {
		all = append(all, speedArgs{List: still, Time: time})
	}
	checkSucceeds(t, speedCalls, all, names...)
}

func TestFunctionsThatRequireRunnersOfTheList(t *testing.T) {
	for _, list := range [][]impl.Runner{runnersOf(4, 0), runnersOf(0, 2, 6, -1, 10, -2), bunch(impl.MaxRunners)} {
		var all []speedArgs
		for _, k := range slices.Compact(badRunners(len(list))) {
			all = append(all, speedArgs{List: list, K: k})
		}
		checkFails(t, speedCalls, all, "MeetsOf")
		checkSucceeds(t, speedCalls, []speedArgs{{List: list, K: 0}, {List: list, K: len(list) - 1}}, "MeetsOf")
	}
}
