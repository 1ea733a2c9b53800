package tests

import (
	"math"
	"reflect"
	"slices"
	"testing"

	"loop.example/g01270/impl"
)

// args are all arguments that a function of chapter 1 may take.
type args struct {
	rod  impl.Rod
	ant  int
	time int
	more impl.Ant
	text string
}

type rodCall struct {
	name string
	call func(args) ([]any, bool)
}

var rodCalls = []rodCall{
	{"IsRod", func(a args) ([]any, bool) { return nil, impl.IsRod(a.rod) }},
	{"RodAfter", func(a args) ([]any, bool) { x, ok := impl.RodAfter(a.rod, a.time); return []any{x}, ok }},
	{"PlaceAfter", func(a args) ([]any, bool) { x, ok := impl.PlaceAfter(a.rod, a.ant, a.time); return []any{x}, ok }},
	{"WayAfter", func(a args) ([]any, bool) { x, ok := impl.WayAfter(a.rod, a.ant, a.time); return []any{x}, ok }},
	{"GhostsAfter", func(a args) ([]any, bool) { x, ok := impl.GhostsAfter(a.rod, a.time); return []any{x}, ok }},
	{"FallTimes", func(a args) ([]any, bool) { x, ok := impl.FallTimes(a.rod); return []any{x}, ok }},
	{"FallOf", func(a args) ([]any, bool) { x, y, ok := impl.FallOf(a.rod, a.ant); return []any{x, y}, ok }},
	{"LastFall", func(a args) ([]any, bool) { x, ok := impl.LastFall(a.rod); return []any{x}, ok }},
	{"LastAnts", func(a args) ([]any, bool) { x, ok := impl.LastAnts(a.rod); return []any{x}, ok }},
	{"CountFalls", func(a args) ([]any, bool) { x, y, ok := impl.CountFalls(a.rod); return []any{x, y}, ok }},
	{"CountMeetings", func(a args) ([]any, bool) { x, ok := impl.CountMeetings(a.rod); return []any{x}, ok }},
	{"OnRodAfter", func(a args) ([]any, bool) { x, ok := impl.OnRodAfter(a.rod, a.time); return []any{x}, ok }},
	{"MirrorRod", func(a args) ([]any, bool) { x, ok := impl.MirrorRod(a.rod); return []any{x}, ok }},
	{"TurnWays", func(a args) ([]any, bool) { x, ok := impl.TurnWays(a.rod); return []any{x}, ok }},
	{"AddAnt", func(a args) ([]any, bool) { x, ok := impl.AddAnt(a.rod, a.more); return []any{x}, ok }},
	{"DropAnt", func(a args) ([]any, bool) { x, ok := impl.DropAnt(a.rod, a.ant); return []any{x}, ok }},
	{"RodText", func(a args) ([]any, bool) { x, ok := impl.RodText(a.rod); return []any{x}, ok }},
	{"ParseRod", func(a args) ([]any, bool) { x, ok := impl.ParseRod(a.text); return []any{x}, ok }},
}

// isZero takes a nil slice and an empty one for the same value.
func isZero(x any) bool {
	switch v := x.(type) {
	case []int:
		return len(v) == 0
	case impl.Rod:
		return v.Length == 0 && len(v.Ants) == 0
	}
	return reflect.ValueOf(x).IsZero()
}

// copyOf returns results in memory of their own, with nil for empty slices.
func copyOf(results []any) []any {
	var list []any
	for _, x := range results {
		switch v := x.(type) {
		case []int:
			x = append([]int(nil), v...)
		case impl.Rod:
			x = impl.Rod{Length: v.Length, Ants: append([]impl.Ant(nil), v.Ants...)}
		}
		list = append(list, x)
	}
	return list
}

// scribble writes over all memory of results, with what is behind their lengths.
func scribble(results []any) {
	for _, x := range results {
		switch v := x.(type) {
		case []int:
			v = v[:cap(v)]
			for i := range v {
				v[i] = -77
			}
		case impl.Rod:
			list := v.Ants[:cap(v.Ants)]
			for i := range list {
				list[i] = antAt(-77, -77)
			}
		}
	}
}

// withRoom returns a rod whose ants have others behind their length, and all of them.
func withRoom(r impl.Rod) (impl.Rod, []impl.Ant) {
	all := slices.Concat(r.Ants, antsOf(0, -1, 2, 1, 5, 7, 1000, 1))
	return impl.Rod{Length: r.Length, Ants: all[:len(r.Ants)]}, all
}

// noRods returns rods that are none.
func noRods() []impl.Rod {
	many := crowdedRod()
	many.Ants = slices.Insert(many.Ants, 8, antAt(500, 1))
	rods := []impl.Rod{{}, many, {Length: 10, Ants: make([]impl.Ant, 500)}}
	for _, length := range []int{math.MinInt, -10, -2, -1, 0, 1, 3, 999, 1001, 1002, math.MaxInt} {
		rods = append(rods, impl.Rod{Length: length}, impl.Rod{Length: length, Ants: antsOf(2, 1)})
	}
	for _, list := range [][]impl.Ant{
		antsOf(-2, 1), antsOf(3, 1), antsOf(12, -1), antsOf(2, 0), antsOf(2, 2), antsOf(2, -2), antsOf(math.MaxInt, 1), antsOf(math.MinInt, -1), antsOf(2, math.MaxInt), antsOf(2, math.MinInt),
		antsOf(4, 1, 2, 1), antsOf(4, 1, 4, -1), antsOf(4, 1, 4, 1), antsOf(4, -1, 4, -1), antsOf(4, -1, 4, 1, 4, 1), antsOf(4, -1, 4, -1, 4, 1), antsOf(4, -1, 4, 1, 2, 1),
	} {
		rods = append(rods, impl.Rod{Length: 10, Ants: list})
	}
	return rods
}

// manyArgs returns arguments that are valid, that are not, and both mixed.
func manyArgs(t *testing.T) []args {
	rods := noRods()
	for _, s := range []string{"2:", "2:l0", "2:l0r2", "10:r2l6r8", "10:l0r0l10r10", "10:l4r4", "1000:r0l1000"} {
		rods = append(rods, mustRod(t, s))
	}
	rods = append(rods, crowdedRod())
	var list []args
	for _, r := range rods {
		for _, ant := range append(badAnts(len(r.Ants)), 0, 1, 2, 15) {
			for _, time := range append(badTimes, 0, 2, 8, 998, 1000, 2000) {
				list = append(list, args{r, ant, time, antAt(ant, time), "10:r2l6"})
			}
		}
		for _, a := range antsOf(0, -1, 0, 1, 4, 1, 6, -1, 3, 1, 500, 1) {
			list = append(list, args{rod: r, more: a, text: "10:r2"})
		}
	}
	return list
}

func TestNoFunctionPanicsAndFailuresAreZero(t *testing.T) {
	for _, a := range manyArgs(t) {
		for _, c := range rodCalls {
			results, ok := c.call(a)
			for _, x := range results {
				if !ok && !isZero(x) {
					t.Fatalf("%s of %+v fails with %v", c.name, a, results)
				}
			}
		}
	}
}

func TestNoFunctionChangesOrSharesArguments(t *testing.T) {
	for _, a := range manyArgs(t) {
		for _, c := range rodCalls {
			roomy := a
			var all []impl.Ant
			roomy.rod, all = withRoom(a.rod)
			before := slices.Clone(all)
			want, fine := c.call(a)
			want = copyOf(want)
			got, ok := c.call(roomy)
			if ok != fine || !reflect.DeepEqual(copyOf(got), want) {
				t.Fatalf("%s of %+v is %v, %v with room, %v, %v without", c.name, a, got, ok, want, fine)
			}
			if !slices.Equal(all, before) {
				t.Fatalf("%s of %+v changes its argument", c.name, a)
			}
			scribble(got)
			if !slices.Equal(all, before) {
				t.Fatalf("%s of %+v shares memory with its argument", c.name, a)
			}
			again, ok := c.call(a)
			if ok != fine || !reflect.DeepEqual(copyOf(again), want) {
				t.Fatalf("%s of %+v is another one at the second call", c.name, a)
			}
		}
	}
}

// TestFunctionsThatRequireRods names those that fail for all rods that are none.
func TestFunctionsThatRequireRods(t *testing.T) {
	for _, r := range noRods() {
		for _, c := range rodCalls {
			if c.name == "ParseRod" {
				continue
			}
			if results, ok := c.call(args{rod: r, more: antAt(0, 1)}); ok {
				t.Fatalf("%s of %v is %v", c.name, r, results)
			}
		}
	}
}

func TestFunctionsThatRequireTimes(t *testing.T) {
	r := mustRod(t, "10:r2l6r8")
	for _, c := range rodCalls {
		if !slices.Contains([]string{"RodAfter", "PlaceAfter", "WayAfter", "GhostsAfter", "OnRodAfter"}, c.name) {
			continue
		}
		for _, time := range badTimes {
			if results, ok := c.call(args{rod: r, time: time}); ok {
				t.Errorf("%s with the time %d is %v", c.name, time, results)
			}
		}
		if results, ok := c.call(args{rod: r, time: 4}); !ok {
			t.Errorf("%s with the time 4 is %v", c.name, results)
		}
	}
}

func TestFunctionsThatRequireAnts(t *testing.T) {
	r := mustRod(t, "10:r2l6r8")
	for _, c := range rodCalls {
		if !slices.Contains([]string{"PlaceAfter", "WayAfter", "FallOf", "DropAnt"}, c.name) {
			continue
		}
		for _, ant := range badAnts(len(r.Ants)) {
			if results, ok := c.call(args{rod: r, ant: ant}); ok {
				t.Errorf("%s of the ant %d is %v", c.name, ant, results)
			}
		}
		if results, ok := c.call(args{rod: r, ant: 2}); !ok {
			t.Errorf("%s of the ant 2 is %v", c.name, results)
		}
	}
}
