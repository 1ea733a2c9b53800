package tests

import (
	"math"
	"slices"
	"testing"

	"loop.example/g01270/impl"
)

// ballArgs are all arguments that a function of chapter 8 may take.
type ballArgs struct {
	M       int
	U       impl.Pace
	N       int
	V       impl.Pace
	Masses  []int
	Bounces int
	Balls   int
	Lifted  int
}

var ballCalls = []namedCall[ballArgs]{
	{"IsPace", func(a ballArgs) ([]any, bool) { return nil, impl.IsPace(a.U) }},
	{"Clack", func(a ballArgs) ([]any, bool) { x, y, ok := impl.Clack(a.M, a.U, a.N, a.V); return []any{x, y}, ok }},
	{"CommonPace", func(a ballArgs) ([]any, bool) { x, ok := impl.CommonPace(a.M, a.U, a.N, a.V); return []any{x}, ok }},
	{"PushOf", func(a ballArgs) ([]any, bool) { x, ok := impl.PushOf(a.M, a.U, a.N, a.V); return []any{x}, ok }},
	{"EnergyOf", func(a ballArgs) ([]any, bool) { x, ok := impl.EnergyOf(a.M, a.U, a.N, a.V); return []any{x}, ok }},
	{"CountClacks", func(a ballArgs) ([]any, bool) { x, ok := impl.CountClacks(a.M, a.N); return []any{x}, ok }},
	{"ClackPaces", func(a ballArgs) ([]any, bool) { x, y, ok := impl.ClackPaces(a.M, a.N); return []any{x, y}, ok }},
	{"LastClack", func(a ballArgs) ([]any, bool) { x, ok := impl.LastClack(a.M, a.N); return []any{x}, ok }},
	{"ChainPace", func(a ballArgs) ([]any, bool) { x, ok := impl.ChainPace(a.Masses); return []any{x}, ok }},
	{"ChainLeft", func(a ballArgs) ([]any, bool) { x, ok := impl.ChainLeft(a.Masses); return []any{x}, ok }},
	{"BestMiddle", func(a ballArgs) ([]any, bool) { x, ok := impl.BestMiddle(a.M, a.N); return []any{x}, ok }},
	{"BestMiddles", func(a ballArgs) ([]any, bool) { x, y, ok := impl.BestMiddles(a.M, a.N); return []any{x, y}, ok }},
	{"HeightAfter", func(a ballArgs) ([]any, bool) { x, ok := impl.HeightAfter(a.U, a.Bounces); return []any{x}, ok }},
	{"BouncesBelow", func(a ballArgs) ([]any, bool) { x, ok := impl.BouncesBelow(a.U, a.V); return []any{x}, ok }},
	{"WayOfBounces", func(a ballArgs) ([]any, bool) { x, ok := impl.WayOfBounces(a.U, a.Bounces); return []any{x}, ok }},
	{"CradleAfter", func(a ballArgs) ([]any, bool) { x, ok := impl.CradleAfter(a.Balls, a.Lifted); return []any{x}, ok }},
}

// The functions of two balls with paces, of two masses alone, of a chain, and of a part that a ball keeps.
var (
	namesOfTwoBalls = []string{"Clack", "CommonPace", "PushOf", "EnergyOf"}
	namesOfMasses   = []string{"CountClacks", "ClackPaces", "LastClack", "BestMiddle", "BestMiddles"}
	namesOfChains   = []string{"ChainPace", "ChainLeft"}
	namesOfKeeps    = []string{"HeightAfter", "BouncesBelow", "WayOfBounces"}
)

// noPaces returns fractions that are not in lowest terms, or out of their limits.
func noPaces() []impl.Pace {
	list := pacesOf(0, 0, 1, 0, -1, 0, 1000000, 0, 0, 2, 0, 1000000, 0, -1, 2, 4, 2, 2, -2, 4, 6, 3, -9, 6, 10, 5, 1000, 1000, 1000000, 1000000, 999998, 1000000, 500000, 1000000, -1000000, 2)
	list = append(list, pacesOf(1000001, 1, -1000001, 1, 1000001, 2, 1000001, 1000000, 1, 1000001, -1, 1000001, 0, 1000001, 1000000, 1000001, 1, -1, -1, -1, 1, -2, -1, -2, 1, -1000000, 2000000, 2, 2000000, 2000000)...)
	for _, far := range []int{math.MinInt, math.MinInt + 1, math.MaxInt - 1, math.MaxInt, 1 << 32, 1<<32 + 1, -1 << 32, 1000000000001} {
		list = append(list, pacesOf(far, 1, 1, far, far, far, 0, far, far, 0, far, -1, -1, far)...)
	}
	return list
}

// noMasses returns numbers that are no masses.
func noMasses() []int {
	return []int{0, 10, -1, 11, -9, 100, -100, 1 << 32, 1<<32 + 1, math.MinInt, math.MinInt + 1, math.MaxInt - 1, math.MaxInt}
}

// noChains returns lists that are no masses of a chain.
func noChains() [][]int {
	lists := [][]int{nil, {}, {1}, {9}, {0}, {1, 1, 1, 1, 1, 1}, {9, 8, 7, 6, 5, 4}, {1, 2, 3, 4, 5, 0}, make([]int, 2), make([]int, 5), make([]int, 6), slices.Repeat([]int{1}, 5000)}
	for _, mass := range noMasses() {
		lists = append(lists, []int{mass, 1}, []int{1, mass}, []int{mass, mass}, []int{mass, 2, 3}, []int{1, mass, 3}, []int{1, 2, mass}, []int{1, 2, 3, 4, mass}, []int{1, 2, mass, 4, 5}, []int{mass, 1, 2, 3, 4})
	}
	return lists
}

// noKeeps returns paces that are no parts greater than 0 and less than 1.
func noKeeps() []impl.Pace {
	return pacesOf(0, 1, 1, 1, -1, 1, -1, 2, 2, 1, 3, 2, -1, 1000000, -999999, 1000000, 1000000, 999999, 1000000, 1, -1000000, 1)
}

// noParts returns paces that are not greater than 0 and at most 1.
func noParts() []impl.Pace {
	return pacesOf(0, 1, -1, 1, -1, 2, -1, 1000000, 2, 1, 3, 2, 1000000, 999999, 1000000, 1, -1000000, 1)
}

// manyBallArgs returns arguments that are valid, that are not, and both mixed.
func manyBallArgs() []ballArgs {
	var list []ballArgs
	paces := slices.Concat(noPaces(), noKeeps(), noParts(), greatPaces(), pacesOf(1, 2, 2, 3, 31, 32))
	masses := append(noMasses(), 1, 2, 9)
	chains := append(noChains(), []int{1, 9}, []int{1, 2, 4}, []int{9, 1, 9, 1, 9})
	numbers := append(numbersOff(20), 0, 1, 2, 9, 10, 19, 20)
	for i, u := range paces {
		for j, v := range paces {
			list = append(list, ballArgs{
				M: masses[(i+3*j)%len(masses)], U: u, N: masses[(5*i+j)%len(masses)], V: v, Masses: chains[(i+7*j)%len(chains)],
				Bounces: numbers[(i+j)%len(numbers)], Balls: numbers[(2*i+j)%len(numbers)], Lifted: numbers[(i+2*j)%len(numbers)],
			})
		}
	}
	for _, u := range append(pacesOf(1, 2, 1, 1, 999, 1000), thrownPaces(3)...) {
		for _, n := range masses {
			for i, number := range numbers {
				list = append(list, ballArgs{M: 3, U: u, N: n, V: paceOf(1, 3), Masses: []int{n, 2, 3}, Bounces: number, Balls: 5, Lifted: number})
				list = append(list, ballArgs{M: n, U: u, N: 9, V: paceOf(-1, 3), Masses: chains[i], Bounces: number, Balls: number, Lifted: 2})
			}
		}
	}
	return list
}

func TestBallsNeverPanicAndFailuresAreZero(t *testing.T) {
	checkFailuresAreZero(t, ballCalls, manyBallArgs())
}

func TestBallsKeepArguments(t *testing.T) {
	var list []ballArgs
	for i, a := range manyBallArgs() {
		if i%5 == 0 {
			list = append(list, a)
		}
	}
	for _, chain := range [][]int{{1, 1}, {9, 1}, {1, 2, 4}, {9, 9, 9, 9}, {1, 9, 1, 9, 1}} {
		for lifted := range 5 {
			list = append(list, ballArgs{M: chain[0], U: paceOf(1, 2), N: chain[1], V: paceOf(1, 100), Masses: chain, Bounces: 4 * lifted, Balls: 5, Lifted: lifted})
		}
	}
	checkArgumentsAreKept(t, ballCalls, list)
}

func TestFunctionsThatRequirePaces(t *testing.T) {
	var list, keeps, parts []ballArgs
	for _, p := range noPaces() {
		for _, other := range pacesOf(0, 1, 1, 2, -1, 1, 1000, 1, -1000, 1) {
			list = append(list, ballArgs{M: 1, U: p, N: 1, V: other}, ballArgs{M: 1, U: other, N: 1, V: p}, ballArgs{M: 9, U: p, N: 2, V: other}, ballArgs{M: 9, U: p, N: 2, V: p})
		}
		for _, bounces := range []int{0, 1, 2, 20} {
			keeps = append(keeps, ballArgs{U: p, V: paceOf(1, 2), Bounces: bounces}, ballArgs{U: p, V: paceOf(1, 1), Bounces: bounces}, ballArgs{U: p, V: p, Bounces: bounces})
		}
		parts = append(parts, ballArgs{U: paceOf(1, 2), V: p}, ballArgs{U: paceOf(2, 3), V: p})
	}
	checkFails(t, ballCalls, list, namesOfTwoBalls...)
	checkFails(t, ballCalls, keeps, namesOfKeeps...)
	checkFails(t, ballCalls, parts, "BouncesBelow")
	good := []ballArgs{
		{M: 1, U: paceOf(1, 1), N: 1, V: paceOf(0, 1)}, {M: 9, U: paceOf(0, 1), N: 1, V: paceOf(-1, 1)}, {M: 1, U: paceOf(3, 2), N: 9, V: paceOf(-1, 2)}, {M: 1, U: paceOf(1000, 1), N: 1, V: paceOf(0, 1)},
	}
	checkSucceeds(t, ballCalls, good, append(namesOfTwoBalls, "IsPace")...)
}

func TestFunctionsThatRequireMasses(t *testing.T) {
	var list, chains []ballArgs
	for _, mass := range noMasses() {
		for _, other := range []int{1, 2, 9, mass} {
			list = append(list, ballArgs{M: mass, U: paceOf(1, 1), N: other, V: paceOf(0, 1)}, ballArgs{M: other, U: paceOf(1, 1), N: mass, V: paceOf(0, 1)})
			list = append(list, ballArgs{M: mass, U: paceOf(0, 1), N: -mass, V: paceOf(-1, 1)}, ballArgs{M: mass, N: other})
		}
	}
	checkFails(t, ballCalls, list, slices.Concat(namesOfTwoBalls, namesOfMasses)...)
	for _, masses := range noChains() {
		chains = append(chains, ballArgs{Masses: masses})
	}
	checkFails(t, ballCalls, chains, namesOfChains...)
	eachMasses(2, func(masses ...int) {
		checkSucceeds(t, ballCalls, []ballArgs{{M: masses[0], U: paceOf(1, 1), N: masses[1], V: paceOf(0, 1), Masses: masses}}, slices.Concat(namesOfTwoBalls, namesOfMasses, namesOfChains)...)
	})
	good := []ballArgs{{Masses: []int{1, 1}}, {Masses: []int{9, 9}}, {Masses: []int{1, 1, 1, 1, 1}}, {Masses: []int{9, 1, 9, 1, 9}}, {Masses: []int{9, 9, 9, 9, 9}}}
	checkSucceeds(t, ballCalls, good, namesOfChains...)
}

func TestFunctionsThatRequireParts(t *testing.T) {
	var keeps, parts []ballArgs
	for _, p := range noKeeps() {
		for bounces := range 21 {
			keeps = append(keeps, ballArgs{U: p, V: paceOf(1, 2), Bounces: bounces}, ballArgs{U: p, V: paceOf(1, 1), Bounces: bounces})
		}
	}
	checkFails(t, ballCalls, keeps, namesOfKeeps...)
	for _, p := range noParts() {
		parts = append(parts, ballArgs{U: paceOf(1, 2), V: p}, ballArgs{U: paceOf(1, 1000000), V: p}, ballArgs{U: paceOf(999999, 1000000), V: p})
	}
	checkFails(t, ballCalls, parts, "BouncesBelow")
	var good []ballArgs
	for _, p := range pacesOf(1, 2, 1, 3, 99, 100, 1, 1000000, 999999, 1000000) {
		good = append(good, ballArgs{U: p, V: paceOf(1, 1), Bounces: 1})
	}
	checkSucceeds(t, ballCalls, good, namesOfKeeps...)
}

func TestFunctionsThatRequireBounces(t *testing.T) {
	for _, keeps := range pacesOf(1, 2, 2, 3, 99, 100) {
		var list []ballArgs
		for _, bounces := range append(numbersOff(20), 1<<32, 1<<32+1) {
			list = append(list, ballArgs{U: keeps, Bounces: bounces})
		}
		checkFails(t, ballCalls, list, "HeightAfter", "WayOfBounces")
		checkFails(t, ballCalls, []ballArgs{{U: keeps}}, "WayOfBounces")
		checkSucceeds(t, ballCalls, []ballArgs{{U: keeps}, {U: keeps, Bounces: 1}}, "HeightAfter")
	}
	checkSucceeds(t, ballCalls, []ballArgs{{U: paceOf(1, 2), Bounces: 1}, {U: paceOf(1, 2), Bounces: 20}}, "WayOfBounces")
}

func TestFunctionsThatRequireCradles(t *testing.T) {
	var list, good []ballArgs
	for _, balls := range []int{math.MinInt, -1, 0, 1, 11, 12, 1 << 32, math.MaxInt} {
		for _, lifted := range []int{math.MinInt, -1, 0, 1, 2, 10, math.MaxInt} {
			list = append(list, ballArgs{Balls: balls, Lifted: lifted})
		}
	}
	for balls := 2; balls <= 10; balls++ {
		for _, lifted := range []int{math.MinInt, -balls, -1, 0, balls, balls + 1, 11, 1 << 32, math.MaxInt} {
			list = append(list, ballArgs{Balls: balls, Lifted: lifted})
		}
		good = append(good, ballArgs{Balls: balls, Lifted: 1}, ballArgs{Balls: balls, Lifted: balls - 1})
	}
	checkFails(t, ballCalls, list, "CradleAfter")
	checkSucceeds(t, ballCalls, good, "CradleAfter")
}
