package tests

import (
	"math"
	"slices"
	"testing"

	"loop.example/g01270/impl"
)

// rodArgs are all arguments that a function of chapter 1 may take.
type rodArgs struct {
	Rod  impl.Rod
	Ant  int
	Time int
	More impl.Ant
	Text string
}

var rodCalls = []namedCall[rodArgs]{
	{"IsRod", func(a rodArgs) ([]any, bool) { return nil, impl.IsRod(a.Rod) }},
	{"RodAfter", func(a rodArgs) ([]any, bool) { x, ok := impl.RodAfter(a.Rod, a.Time); return []any{x}, ok }},
	{"PlaceAfter", func(a rodArgs) ([]any, bool) { x, ok := impl.PlaceAfter(a.Rod, a.Ant, a.Time); return []any{x}, ok }},
	{"WayAfter", func(a rodArgs) ([]any, bool) { x, ok := impl.WayAfter(a.Rod, a.Ant, a.Time); return []any{x}, ok }},
	{"GhostsAfter", func(a rodArgs) ([]any, bool) { x, ok := impl.GhostsAfter(a.Rod, a.Time); return []any{x}, ok }},
	{"FallTimes", func(a rodArgs) ([]any, bool) { x, ok := impl.FallTimes(a.Rod); return []any{x}, ok }},
	{"FallOf", func(a rodArgs) ([]any, bool) { x, y, ok := impl.FallOf(a.Rod, a.Ant); return []any{x, y}, ok }},
	{"LastFall", func(a rodArgs) ([]any, bool) { x, ok := impl.LastFall(a.Rod); return []any{x}, ok }},
	{"LastAnts", func(a rodArgs) ([]any, bool) { x, ok := impl.LastAnts(a.Rod); return []any{x}, ok }},
	{"CountFalls", func(a rodArgs) ([]any, bool) { x, y, ok := impl.CountFalls(a.Rod); return []any{x, y}, ok }},
	{"CountMeetings", func(a rodArgs) ([]any, bool) { x, ok := impl.CountMeetings(a.Rod); return []any{x}, ok }},
	{"OnRodAfter", func(a rodArgs) ([]any, bool) { x, ok := impl.OnRodAfter(a.Rod, a.Time); return []any{x}, ok }},
	{"MirrorRod", func(a rodArgs) ([]any, bool) { x, ok := impl.MirrorRod(a.Rod); return []any{x}, ok }},
	{"TurnWays", func(a rodArgs) ([]any, bool) { x, ok := impl.TurnWays(a.Rod); return []any{x}, ok }},
	{"AddAnt", func(a rodArgs) ([]any, bool) { x, ok := impl.AddAnt(a.Rod, a.More); return []any{x}, ok }},
	{"DropAnt", func(a rodArgs) ([]any, bool) { x, ok := impl.DropAnt(a.Rod, a.Ant); return []any{x}, ok }},
	{"RodText", func(a rodArgs) ([]any, bool) { x, ok := impl.RodText(a.Rod); return []any{x}, ok }},
	{"ParseRod", func(a rodArgs) ([]any, bool) { x, ok := impl.ParseRod(a.Text); return []any{x}, ok }},
}

// noRods returns rods that are none.
func noRods() []impl.Rod {
	many := crowdedRod()
	many.Ants = slices.Insert(many.Ants, 8, antAt(500, 1))
	rods := []impl.Rod{{}, many, {Length: 10, Ants: make([]impl.Ant, 500)}}
	for _, length := range []int{math.MinInt, -10, -2, -1, 0, 1, 3, 999, 1001, 1002, math.MaxInt} {
		rods = append(rods, impl.Rod{Length: length}, impl.Rod{Length: length, Ants: antsOf(2, 1)})
	}
	for _, list := range [][]impl.Ant{
		antsOf(-2, 1), antsOf(3, 1), antsOf(12, -1), antsOf(2, 0), antsOf(2, 2), antsOf(2, -2), antsOf(math.MaxInt, 1), antsOf(math.MinInt, -1), antsOf(2, math.MaxInt), antsOf(2, math.MinInt),
		antsOf(4, 1, 2, 1), antsOf(4, 1, 4, -1), antsOf(4, 1, 4, 1), antsOf(4, -1, 4, -1), antsOf(4, -1, 4, 1, 4, 1), antsOf(4, -1, 4, -1, 4, 1), antsOf(4, -1, 4, 1, 2, 1),
	} {
		rods = append(rods, impl.Rod{Length: 10, Ants: list})
	}
	return rods
}

// manyRodArgs returns arguments that are valid, that are not, and both mixed.
func manyRodArgs(t *testing.T) []rodArgs {
	rods := noRods()
	for _, s := range []string{"2:", "2:l0", "2:l0r2", "10:r2l6r8", "10:l0r0l10r10", "10:l4r4", "1000:r0l1000"} {
		rods = append(rods, mustRod(t, s))
	}
	rods = append(rods, crowdedRod())
	var list []rodArgs
	for _, r := range rods {
		for _, ant := range append(badAnts(len(r.Ants)), 0, 1, 2, 15) {
			for _, time := range []int{math.MinInt, -2, 0, 1, 2, 8, 998, 1000, 1999, 2000, 2002, math.MaxInt} {
				list = append(list, rodArgs{r, ant, time, antAt(ant, time), "10:r2l6"})
			}
		}
		for _, a := range antsOf(0, -1, 0, 1, 4, 1, 6, -1, 3, 1, 500, 1) {
			list = append(list, rodArgs{Rod: r, More: a, Text: "10:r2"})
		}
	}
	return list
}

func TestRodsNeverPanicAndFailuresAreZero(t *testing.T) {
	checkFailuresAreZero(t, rodCalls, manyRodArgs(t))
}

func TestRodsKeepArguments(t *testing.T) {
	checkArgumentsAreKept(t, rodCalls, manyRodArgs(t))
}

func TestFunctionsThatRequireRods(t *testing.T) {
	var list []rodArgs
	for _, r := range noRods() {
		list = append(list, rodArgs{Rod: r, More: antAt(0, 1)})
	}
	checkFails(t, rodCalls, list, namesBut(rodCalls, "ParseRod")...)
}

func TestFunctionsThatRequireTimes(t *testing.T) {
	r := mustRod(t, "10:r2l6r8")
	var list []rodArgs
	for _, time := range badTimes {
		list = append(list, rodArgs{Rod: r, Time: time})
	}
	names := []string{"RodAfter", "PlaceAfter", "WayAfter", "GhostsAfter", "OnRodAfter"}
	checkFails(t, rodCalls, list, names...)
	checkSucceeds(t, rodCalls, []rodArgs{{Rod: r, Time: 4}}, names...)
}

func TestFunctionsThatRequireAnts(t *testing.T) {
	r := mustRod(t, "10:r2l6r8")
	var list []rodArgs
	for _, ant := range badAnts(len(r.Ants)) {
		list = append(list, rodArgs{Rod: r, Ant: ant})
	}
	names := []string{"PlaceAfter", "WayAfter", "FallOf", "DropAnt"}
	checkFails(t, rodCalls, list, names...)
	checkSucceeds(t, rodCalls, []rodArgs{{Rod: r, Ant: 2}}, names...)
}
