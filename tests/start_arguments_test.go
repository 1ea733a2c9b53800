package tests

import (
	"math"
	"strings"
	"testing"

	"loop.example/g01270/impl"
)

// startArgs are all arguments that a function of chapter 5 may take.
type startArgs struct {
	Length   int
	Places   []int
	Ways     string
	Rod      impl.Rod
	Ant      int
	Meetings int
	Left     []int
	Right    []int
}

var startCalls = []namedCall[startArgs]{
	{"ArePlaces", func(a startArgs) ([]any, bool) { return nil, impl.ArePlaces(a.Length, a.Places) }},
	{"RodOfWays", func(a startArgs) ([]any, bool) {
		x, ok := impl.RodOfWays(a.Length, a.Places, a.Ways)
		return []any{x}, ok
	}},
	{"WaysOf", func(a startArgs) ([]any, bool) { x, ok := impl.WaysOf(a.Rod); return []any{x}, ok }},
	{"CountLastFalls", func(a startArgs) ([]any, bool) { x, ok := impl.CountLastFalls(a.Length, a.Places); return []any{x}, ok }},
	{"LatestFall", func(a startArgs) ([]any, bool) { x, ok := impl.LatestFall(a.Length, a.Places); return []any{x}, ok }},
	{"EarliestEmpty", func(a startArgs) ([]any, bool) { x, ok := impl.EarliestEmpty(a.Length, a.Places); return []any{x}, ok }},
	{"CountLastAnt", func(a startArgs) ([]any, bool) {
		x, ok := impl.CountLastAnt(a.Length, a.Places, a.Ant)
		return []any{x}, ok
	}},
	{"ChancesOfLast", func(a startArgs) ([]any, bool) { x, ok := impl.ChancesOfLast(a.Length, a.Places); return []any{x}, ok }},
	{"MeanMeetings", func(a startArgs) ([]any, bool) {
		x, y, ok := impl.MeanMeetings(a.Length, a.Places)
		return []any{x, y}, ok
	}},
	{"MeanLastFall", func(a startArgs) ([]any, bool) {
		x, y, ok := impl.MeanLastFall(a.Length, a.Places)
		return []any{x, y}, ok
	}},
	{"CountWithMeetings", func(a startArgs) ([]any, bool) {
		x, ok := impl.CountWithMeetings(a.Length, a.Places, a.Meetings)
		return []any{x}, ok
	}},
	{"RodOfFalls", func(a startArgs) ([]any, bool) {
		x, ok := impl.RodOfFalls(a.Length, a.Left, a.Right)
		return []any{x}, ok
	}},
	{"CountSameFalls", func(a startArgs) ([]any, bool) {
		x, ok := impl.CountSameFalls(a.Length, a.Left, a.Right)
		return []any{x}, ok
	}},
	{"FallsOfRod", func(a startArgs) ([]any, bool) { x, y, ok := impl.FallsOfRod(a.Rod); return []any{x, y}, ok }},
	{"BestWays", func(a startArgs) ([]any, bool) { x, ok := impl.BestWays(a.Length, a.Places); return []any{x}, ok }},
}

// The functions that require a length and places.
var namesWithPlaces = []string{"ArePlaces", "RodOfWays", "CountLastFalls", "LatestFall", "EarliestEmpty", "CountLastAnt", "ChancesOfLast", "MeanMeetings", "MeanLastFall", "CountWithMeetings", "BestWays"}

var namesWithFalls = []string{"RodOfFalls", "CountSameFalls"}

var badLengths = []int{math.MinInt, math.MinInt + 1, -1000, -2, -1, 0, 1, 3, 11, 999, 1001, 1002, 2000, math.MaxInt - 1, math.MaxInt}

// disordered returns lists of which the numbers are odd, out of 0..10, or not strictly increasing.
func disordered() [][]int {
	return [][]int{
		{1}, {3}, {9}, {-1}, {-2}, {11}, {12}, {1000}, {math.MinInt}, {math.MinInt + 1}, {math.MaxInt}, {math.MaxInt - 1},
		{2, 2}, {4, 2}, {0, 0}, {10, 10}, {10, 0}, {2, 3}, {3, 4}, {2, 12}, {-2, 2}, {0, 4, 4}, {0, 4, 2}, {0, 0, 4}, {4, 0, 8}, {0, 4, 5, 8}, {0, 2, 4, 12}, {math.MinInt, math.MaxInt - 1}, {math.MinInt, 0},
	}
}

// noStarts returns lengths and places that are none.
func noStarts() []start {
	starts := []start{{10, nil}, {10, []int{}}, {1000, evenUpTo(2 * impl.MaxChosen)}, {1000, evenUpTo(1000)}, {24, evenUpTo(24)}, {10, make([]int, 500)}}
	for _, length := range badLengths {
		starts = append(starts, start{length, []int{0}}, start{length, []int{0, 2}}, start{length, nil}, start{length, []int{length}})
	}
	for _, list := range disordered() {
		starts = append(starts, start{10, list})
	}
	return append(starts, start{2, []int{0, 2, 4}}, start{2, []int{4}}, start{1000, []int{1002}}, start{1000, []int{0, 1001}})
}

// mostFalls returns falls of as many ants as there may be, at both ends and at one.
func mostFalls() []startArgs {
	all := evenUpTo(2 * (impl.MaxAnts - 1))
	return []startArgs{
		{Length: 1000, Left: all},
		{Length: 1000, Right: all},
		{Length: 30, Left: all},
		{Length: 30, Right: all},
		{Length: 1000, Left: all[:8], Right: all[:8]},
		{Length: 1000, Left: all[:15], Right: all[:1]},
		{Length: 1000, Left: all[:1], Right: all[:15]},
	}
}

// tooManyFalls returns falls of one ant more than there may be, and of many more.
func tooManyFalls() []startArgs {
	all := evenUpTo(1000)
	var list []startArgs
	for _, left := range []int{0, 1, 5, 8, 16, 17} {
		list = append(list, startArgs{Length: 1000, Left: all[:left], Right: all[:impl.MaxAnts+1-left]})
	}
	return append(list, startArgs{Length: 1000, Left: all}, startArgs{Length: 1000, Right: all}, startArgs{Length: 1000, Left: all, Right: all})
}

// noFalls returns falls that are none.
func noFalls() []startArgs {
	list := tooManyFalls()
	for _, length := range badLengths {
		list = append(list, startArgs{Length: length}, startArgs{Length: length, Left: []int{0}}, startArgs{Length: length, Right: []int{0}}, startArgs{Length: length, Left: []int{0, 2}, Right: []int{0}})
	}
	for _, bad := range disordered() {
		list = append(list, startArgs{Length: 10, Left: bad}, startArgs{Length: 10, Right: bad}, startArgs{Length: 10, Left: bad, Right: bad})
		list = append(list, startArgs{Length: 10, Left: bad, Right: []int{2}}, startArgs{Length: 10, Left: []int{2}, Right: bad})
	}
	return list
}

// noWays returns texts that are no ways of three ants.
func noWays() []string {
	return []string{"", "l", "lr", "lrlr", "lrlrl", "llx", "xll", "lxl", "LLR", "llR", "ll ", " lr", "l r", "ll\x00", "\x00\x00\x00", "ll\n", "éé", "lé", "rré", "\xff\xfe\xfd", "010", "-1", strings.Repeat("l", 12), strings.Repeat("r", 5000)}
}

// manyStartArgs returns arguments that are valid, that are not, and both mixed.
func manyStartArgs(t *testing.T) []startArgs {
	list := append(noFalls(), mostFalls()...)
	for _, s := range append(noStarts(), start{2, []int{0, 2}}, start{10, []int{2, 4, 8}}, start{1000, []int{0, 1000}}) {
		for i, ways := range append(noWays(), "llr", "rl") {
			list = append(list, startArgs{Length: s.length, Places: s.places, Ways: ways, Ant: i - 2, Meetings: i})
		}
		for _, number := range []int{math.MinInt, -1, 0, 1, 2, 3, 12, 100, 101, math.MaxInt} {
			list = append(list, startArgs{Length: s.length, Places: s.places, Ant: number, Meetings: number, Left: s.places, Right: []int{2}})
		}
	}
	for _, r := range append(noRods(), crowdedRod(), busyRod(), mustRod(t, "2:"), mustRod(t, "10:l4r4"), mustRod(t, "10:l0r0l10r10"), mustRod(t, "20:r2r6l10l16")) {
		list = append(list, startArgs{Rod: r})
	}
	for _, s := range greatStarts() {
		list = append(list, startArgs{Length: s.length, Places: s.places, Ways: strings.Repeat("l", len(s.places)), Left: s.places[:1], Right: s.places})
	}
	return list
}

func TestStartsNeverPanicAndFailuresAreZero(t *testing.T) {
	checkFailuresAreZero(t, startCalls, manyStartArgs(t))
}

func TestStartsKeepArguments(t *testing.T) {
	checkArgumentsAreKept(t, startCalls, manyStartArgs(t))
}

func TestFunctionsThatRequirePlaces(t *testing.T) {
	var list []startArgs
	for _, s := range noStarts() {
		list = append(list, startArgs{Length: s.length, Places: s.places, Ways: strings.Repeat("l", len(s.places))})
	}
	checkFails(t, startCalls, list, namesWithPlaces...)
	good := []startArgs{{Length: 2, Places: []int{0}, Ways: "l"}, {Length: 2, Places: []int{0, 2}, Ways: "rl"}, {Length: 10, Places: []int{2, 4, 8}, Ways: "llr"}, {Length: 1000, Places: []int{1000}, Ways: "r"}}
	good = append(good, startArgs{Length: 1000, Places: evenUpTo(22), Ways: "lrlrlrlrlrlr"}, startArgs{Length: 22, Places: evenUpTo(22), Ways: "rrrrrrllllll"})
	checkSucceeds(t, startCalls, good, namesWithPlaces...)
}

func TestFunctionsThatRequireWays(t *testing.T) {
	var list []startArgs
	for _, ways := range noWays() {
		list = append(list, startArgs{Length: 10, Places: []int{2, 4, 8}, Ways: ways})
	}
	for _, ways := range []string{"lrlrlrlrlrl", "lrlrlrlrlrlrl", "lrlrlrlrlrlx", "xrlrlrlrlrlr"} {
		list = append(list, startArgs{Length: 1000, Places: evenUpTo(22), Ways: ways})
	}
	checkFails(t, startCalls, list, "RodOfWays")
	checkSucceeds(t, startCalls, []startArgs{{Length: 10, Places: []int{2, 4, 8}, Ways: "rlr"}}, "RodOfWays")
}

func TestFunctionsThatRequireAntsOfPlaces(t *testing.T) {
	for _, places := range [][]int{{4}, {2, 4, 8}, evenUpTo(22)} {
		var list []startArgs
		for _, ant := range append(badAnts(len(places)), math.MinInt+1, -2, 12, 13) {
			list = append(list, startArgs{Length: 22, Places: places, Ant: ant})
		}
		checkFails(t, startCalls, list, "CountLastAnt")
		checkSucceeds(t, startCalls, []startArgs{{Length: 22, Places: places}, {Length: 22, Places: places, Ant: len(places) - 1}}, "CountLastAnt")
	}
}

func TestFunctionsThatRequireNumbersOfMeetings(t *testing.T) {
	var list, good []startArgs
	for _, meetings := range []int{math.MinInt, -100, -1, 101, 102, 1000, math.MaxInt} {
		list = append(list, startArgs{Length: 10, Places: []int{2, 4, 8}, Meetings: meetings})
	}
	for meetings := range 101 {
		good = append(good, startArgs{Length: 10, Places: []int{2, 4, 8}, Meetings: meetings})
	}
	checkFails(t, startCalls, list, "CountWithMeetings")
	checkSucceeds(t, startCalls, good, "CountWithMeetings")
}

func TestFunctionsThatRequireFalls(t *testing.T) {
	checkFails(t, startCalls, noFalls(), namesWithFalls...)
	good := append(mostFalls(), startArgs{Length: 10}, startArgs{Length: 10, Left: []int{0, 10}, Right: []int{0, 10}}, startArgs{Length: 2, Left: []int{2}}, startArgs{Length: 1000, Right: []int{1000}})
	checkSucceeds(t, startCalls, good, namesWithFalls...)
}

func TestStartsRequireRods(t *testing.T) {
	var list []startArgs
	for _, r := range noRods() {
		list = append(list, startArgs{Rod: r})
	}
	checkFails(t, startCalls, list, "WaysOf", "FallsOfRod")
	checkSucceeds(t, startCalls, []startArgs{{Rod: mustRod(t, "2:")}, {Rod: mustRod(t, "10:l4r4")}, {Rod: crowdedRod()}}, "WaysOf", "FallsOfRod")
}
