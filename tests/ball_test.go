package tests

import (
	"math"
	"math/big"
	"slices"
	"testing"

	"loop.example/g01270/impl"
)

func TestExampleOfBalls(t *testing.T) {
	wantTwoPaces(t, "Clack", ratOfInt(-1), ratOfInt(1))(impl.Clack(1, paceOf(2, 1), 3, paceOf(0, 1)))
	wantOne(t, "CountClacks 1 and 1", 3)(impl.CountClacks(1, 1))
	wantOne(t, "CountClacks 1 and 3", 5)(impl.CountClacks(1, 3))
	wantOne(t, "CountClacks 1 and 9", 9)(impl.CountClacks(1, 9))
	wantOne(t, "ChainPace 1, 2, 4", paceOf(4, 9))(impl.ChainPace([]int{1, 2, 4}))
	wantOne(t, "ChainPace 1, 4", paceOf(2, 5))(impl.ChainPace([]int{1, 4}))
	wantOne(t, "BestMiddle", 2)(impl.BestMiddle(1, 4))
	wantOne(t, "HeightAfter", paceOf(1, 8))(impl.HeightAfter(paceOf(1, 2), 3))
	wantList(t, "CradleAfter", []bool{false, true, true})(impl.CradleAfter(3, 2))
	smalls, greats, ok := impl.ClackPaces(1, 1)
	wantList(t, "ClackPaces of the small one", pacesOf(-1, 1, 1, 1, 0, 1))(smalls, ok)
	wantList(t, "ClackPaces of the great one", pacesOf(0, 1, 0, 1, 1, 1))(greats, ok)
}

func TestClacksAreThoseThatKeepPush(t *testing.T) {
	eachTwoBalls(t, func(m int, u impl.Pace, n int, v impl.Pace) {
		if ratOfPace(u).Cmp(ratOfPace(v)) <= 0 {
			if x, y, ok := impl.Clack(m, u, n, v); ok || !allZero([]any{x, y}) {
				t.Error("Clack of balls that do not meet is", x, y, ok)
			}
			return
		}
		x, y := clackOfRats(m, ratOfPace(u), n, ratOfPace(v))
		wantTwoPaces(t, "Clack", x, y)(impl.Clack(m, u, n, v))
	})
}

// What a clack does not change, as far as the program tells it, is the same ahead of it and behind.
func TestClacksKeepPushAndEnergy(t *testing.T) {
	kept := map[string]int{}
	eachTwoBalls(t, func(m int, u impl.Pace, n int, v impl.Pace) {
		x, y, ok := impl.Clack(m, u, n, v)
		if !ok {
			return
		}
		for _, c := range []struct {
			name string
			call func(int, impl.Pace, int, impl.Pace) (impl.Pace, bool)
		}{{"PushOf", impl.PushOf}, {"EnergyOf", impl.EnergyOf}, {"CommonPace", impl.CommonPace}} {
			ahead, fine := c.call(m, u, n, v)
			behind, still := c.call(m, x, n, y)
			if fine && still {
				kept[c.name]++
				if ahead != behind {
					t.Error(c.name, "is", ahead, "ahead and", behind, "behind")
				}
			}
			// Energy is told of small numbers alone, and these may become greater.
			if fine != still && c.name != "EnergyOf" {
				t.Error(c.name, "succeeds only ahead of a clack or only behind it")
			}
		}
		if ratOfPace(x).Cmp(ratOfPace(y)) >= 0 {
			t.Error("Clack", x, y, "are no paces of balls that go apart")
		}
	})
	for _, name := range []string{"PushOf", "EnergyOf", "CommonPace"} {
		if kept[name] < 500 {
			t.Error(name, "is kept only", kept[name], "times")
		}
	}
}

func TestSumsOfTwoBalls(t *testing.T) {
	eachTwoBalls(t, func(m int, u impl.Pace, n int, v impl.Pace) {
		x, y := ratOfPace(u), ratOfPace(v)
		push := pushOfRats(m, x, n, y)
		wantPace(t, "PushOf", push)(impl.PushOf(m, u, n, v))
		wantPace(t, "CommonPace", quotientOfRats(push, ratOfInt(m+n)))(impl.CommonPace(m, u, n, v))
		if max(u.Num, -u.Num, u.Den, v.Num, -v.Num, v.Den) > 1000 {
			wantNone[impl.Pace](t, "EnergyOf")(impl.EnergyOf(m, u, n, v))
		} else {
			wantPace(t, "EnergyOf", energyOfRats(m, x, n, y))(impl.EnergyOf(m, u, n, v))
		}
	})
}

func TestBallsWithEqualMassesExchangePaces(t *testing.T) {
	for mass := 1; mass <= impl.MaxMass; mass++ {
		for _, u := range manyPaces() {
			for _, v := range manyPaces() {
				x, y := ratOfPace(u), ratOfPace(v)
				if x.Cmp(y) > 0 {
					wantTwoPaces(t, "Clack", y, x)(impl.Clack(mass, u, mass, v))
				}
			}
		}
	}
	most, least := ratOfInt(impl.MaxPaceNum), ratOfInt(-impl.MaxPaceNum)
	wantTwoPaces(t, "Clack", least, most)(impl.Clack(9, paceOf(1000000, 1), 9, paceOf(-1000000, 1)))
}

func TestClacksByHand(t *testing.T) {
	for _, c := range []struct {
		m    int
		u    impl.Pace
		n    int
		v    impl.Pace
		x, y impl.Pace
	}{
		{1, paceOf(2, 1), 3, paceOf(0, 1), paceOf(-1, 1), paceOf(1, 1)},
		{3, paceOf(0, 1), 1, paceOf(-2, 1), paceOf(-1, 1), paceOf(1, 1)},
		{1, paceOf(1, 1), 9, paceOf(0, 1), paceOf(-4, 5), paceOf(1, 5)},
		{9, paceOf(1, 1), 1, paceOf(0, 1), paceOf(4, 5), paceOf(9, 5)},
		{9, paceOf(0, 1), 1, paceOf(-1, 1), paceOf(-1, 5), paceOf(4, 5)},
		{2, paceOf(3, 1), 1, paceOf(0, 1), paceOf(1, 1), paceOf(4, 1)},
		{2, paceOf(5, 2), 4, paceOf(-1, 2), paceOf(-3, 2), paceOf(3, 2)},
		{1, paceOf(1, 999999), 1, paceOf(1, 1000000), paceOf(1, 1000000), paceOf(1, 999999)},
		{1, paceOf(999999, 1), 2, paceOf(0, 1), paceOf(-333333, 1), paceOf(666666, 1)},
		{9, paceOf(1000000, 1), 1, paceOf(999995, 1), paceOf(999999, 1), paceOf(1000004, 1)},
		{9, paceOf(999996, 1), 1, paceOf(999991, 1), paceOf(999995, 1), paceOf(1000000, 1)},
		{1, paceOf(-999996, 1), 9, paceOf(-1000001, 1), paceOf(-1000005, 1), paceOf(-1000000, 1)},
		{1, paceOf(-999991, 1), 9, paceOf(-999996, 1), paceOf(-1000000, 1), paceOf(-999995, 1)},
		{1, paceOf(1, 500000), 3, paceOf(0, 1), paceOf(-1, 1000000), paceOf(1, 1000000)},
		{1, paceOf(1, 1000000), 3, paceOf(0, 1), paceOf(-1, 2000000), paceOf(1, 2000000)},
	} {
		wantTwoPaces(t, "Clack", ratOfPace(c.x), ratOfPace(c.y))(impl.Clack(c.m, c.u, c.n, c.v))
	}
	for _, u := range pacesOf(0, 1, 1, 1, -1, 1, 1, 2, 1000000, 1, -1000000, 1, 1, 1000000, 999999, 1000000) {
		if x, y, ok := impl.Clack(2, u, 3, u); ok || !allZero([]any{x, y}) {
			t.Error("Clack of equal paces", u, "is", x, y, ok)
		}
	}
}

// Two paces of which one is greater by as little as it can be.
func TestPacesThatAreJustGreater(t *testing.T) {
	for _, pair := range [][]impl.Pace{
		pacesOf(1, 999999, 1, 1000000), pacesOf(-1, 1000000, -1, 999999), pacesOf(999999, 1000000, 999998, 999999), pacesOf(999999, 999998, 1000000, 999999), pacesOf(-999998, 999999, -999999, 1000000),
		pacesOf(1, 1000000, 0, 1), pacesOf(0, 1, -1, 1000000), pacesOf(1000000, 1, 999999, 1), pacesOf(-999999, 1, -1000000, 1), pacesOf(499999, 999997, 500000, 999999),
	} {
		u, v := pair[0], pair[1]
		wantTwoPaces(t, "Clack", ratOfPace(v), ratOfPace(u))(impl.Clack(1, u, 1, v))
		for _, less := range []impl.Pace{u, v} {
			if x, y, ok := impl.Clack(1, less, 1, u); ok || !allZero([]any{x, y}) {
				t.Error("Clack", less, u, "is", x, y, ok)
			}
		}
	}
}

func TestSumsByHand(t *testing.T) {
	rest, far, back := paceOf(0, 1), paceOf(1000000, 1), paceOf(-1000000, 1)
	wantOne(t, "PushOf", paceOf(7, 6))(impl.PushOf(1, paceOf(1, 2), 2, paceOf(1, 3)))
	wantOne(t, "CommonPace", paceOf(7, 18))(impl.CommonPace(1, paceOf(1, 2), 2, paceOf(1, 3)))
	wantOne(t, "EnergyOf", paceOf(17, 36))(impl.EnergyOf(1, paceOf(1, 2), 2, paceOf(1, 3)))
	wantOne(t, "PushOf of balls at rest", rest)(impl.PushOf(9, rest, 1, rest))
	wantOne(t, "CommonPace of balls at rest", rest)(impl.CommonPace(9, rest, 1, rest))
	wantOne(t, "EnergyOf of balls at rest", rest)(impl.EnergyOf(9, rest, 1, rest))
	wantOne(t, "PushOf against each other", rest)(impl.PushOf(9, far, 9, back))
	wantOne(t, "CommonPace of the greatest", far)(impl.CommonPace(9, far, 1, far))
	wantOne(t, "CommonPace of the least", back)(impl.CommonPace(1, back, 9, back))
	wantOne(t, "CommonPace", paceOf(800000, 1))(impl.CommonPace(9, far, 1, back))
	// The slower one may be at the left: these are no clacks.
	wantOne(t, "PushOf", paceOf(5, 1))(impl.PushOf(1, paceOf(1, 1), 2, paceOf(2, 1)))
	wantOne(t, "CommonPace", paceOf(5, 3))(impl.CommonPace(1, paceOf(1, 1), 2, paceOf(2, 1)))
	wantOne(t, "EnergyOf", paceOf(9, 1))(impl.EnergyOf(1, paceOf(1, 1), 2, paceOf(2, 1)))

	wantOne(t, "PushOf at the limit", far)(impl.PushOf(1, paceOf(999999, 1), 1, paceOf(1, 1)))
	wantNone[impl.Pace](t, "PushOf beyond it")(impl.PushOf(1, far, 1, paceOf(1, 1)))
	wantOne(t, "PushOf at the limit", back)(impl.PushOf(1, paceOf(-999999, 1), 1, paceOf(-1, 1)))
	wantNone[impl.Pace](t, "PushOf beyond it")(impl.PushOf(1, back, 1, paceOf(-1, 1)))
	wantOne(t, "PushOf at the limit", paceOf(1999, 1000000))(impl.PushOf(1, paceOf(999, 1000000), 1, paceOf(1, 1000)))
	wantOne(t, "PushOf at the limit", far)(impl.PushOf(2, paceOf(500000, 1), 9, rest))
	wantNone[impl.Pace](t, "PushOf beyond it")(impl.PushOf(2, paceOf(500001, 1), 9, rest))
	wantOne(t, "PushOf at the limit", paceOf(1, 1000000))(impl.PushOf(1, paceOf(1, 1000000), 1, rest))
	wantOne(t, "PushOf at the limit", paceOf(1999, 999000))(impl.PushOf(1, paceOf(1, 1000), 1, paceOf(1, 999)))
	wantNone[impl.Pace](t, "PushOf beyond it")(impl.PushOf(1, paceOf(1, 1000), 1, paceOf(1, 1001)))
	wantOne(t, "CommonPace at the limit", paceOf(1, 1000000))(impl.CommonPace(1, paceOf(1, 500000), 1, rest))
	wantNone[impl.Pace](t, "CommonPace beyond it")(impl.CommonPace(1, paceOf(1, 500001), 1, rest))
	wantOne(t, "CommonPace at the limit", paceOf(999999, 2))(impl.CommonPace(1, paceOf(999999, 1), 1, rest))
	wantNone[impl.Pace](t, "CommonPace beyond it")(impl.CommonPace(1, far, 1, paceOf(1, 1)))
}

func TestEnergyAtItsLimits(t *testing.T) {
	rest := paceOf(0, 1)
	wantOne(t, "EnergyOf", paceOf(1000000, 1))(impl.EnergyOf(1, paceOf(1000, 1), 9, rest))
	wantOne(t, "EnergyOf", paceOf(1000000, 1))(impl.EnergyOf(1, rest, 1, paceOf(-1000, 1)))
	wantNone[impl.Pace](t, "EnergyOf beyond it")(impl.EnergyOf(1, paceOf(1000, 1), 1, paceOf(1, 1)))
	wantNone[impl.Pace](t, "EnergyOf beyond it")(impl.EnergyOf(2, paceOf(1000, 1), 1, rest))
	wantOne(t, "EnergyOf", paceOf(1, 1000000))(impl.EnergyOf(1, paceOf(1, 1000), 1, rest))
	wantOne(t, "EnergyOf", paceOf(9, 500000))(impl.EnergyOf(9, paceOf(1, 1000), 9, paceOf(-1, 1000)))
	wantNone[impl.Pace](t, "EnergyOf beyond it")(impl.EnergyOf(1, paceOf(1, 1000), 1, paceOf(1, 999)))
	wantOne(t, "EnergyOf", paceOf(1000000, 998001))(impl.EnergyOf(1, paceOf(-1000, 999), 1, rest))
	wantOne(t, "EnergyOf", paceOf(998001, 1000000))(impl.EnergyOf(1, rest, 1, paceOf(999, 1000)))
	// Each of these numbers alone is beyond what energy is told of, though the result would be a pace.
	for _, p := range pacesOf(1001, 1001000, 1001, 1000, -1001, 1000, 1, 1001, -1, 1001, 1000, 1001, 1001, 2, 1000000, 999999) {
		wantNone[impl.Pace](t, "EnergyOf of great numbers")(impl.EnergyOf(1, p, 1, rest))
		wantNone[impl.Pace](t, "EnergyOf of great numbers")(impl.EnergyOf(1, rest, 1, p))
	}
}

func TestClacksBesideTheWallAreThoseOfTheWalk(t *testing.T) {
	eachMasses(2, func(masses ...int) {
		small, great := masses[0], masses[1]
		w := clackWalkOf(small, great)
		wantOne(t, "CountClacks", len(w.ofBoth))(impl.CountClacks(small, great))
		wantOne(t, "LastClack", w.ofBoth[len(w.ofBoth)-1])(impl.LastClack(small, great))
		smalls, fine := pacesOfRats(w.smalls)
		greats, good := pacesOfRats(w.greats)
		if !fine || !good {
			t.Error("some of", w.smalls, w.greats, "are no paces")
		}
		gotSmalls, gotGreats, ok := impl.ClackPaces(small, great)
		wantList(t, "ClackPaces of the small one", smalls)(gotSmalls, ok)
		wantList(t, "ClackPaces of the great one", greats)(gotGreats, ok)
		if t.Failed() {
			t.Fatal("the masses are", small, great)
		}
	})
}

// All clacks keep energy, those of both keep push, and behind the last one nothing happens.
func TestClacksBesideTheWallKeepEnergy(t *testing.T) {
	eachMasses(2, func(masses ...int) {
		small, great := masses[0], masses[1]
		smalls, greats, _ := impl.ClackPaces(small, great)
		u, v := ratOfInt(0), ratOfInt(-1)
		for i := range min(len(smalls), len(greats)) {
			x, y := ratOfPace(smalls[i]), ratOfPace(greats[i])
			if energyOfRats(small, x, great, y).Cmp(ratOfInt(great)) != 0 {
				t.Error("the energy of", small, x, great, y)
			}
			if i%2 == 0 && pushOfRats(small, x, great, y).Cmp(pushOfRats(small, u, great, v)) != 0 {
				t.Error("the push of", small, x, great, y)
			}
			if i%2 == 1 && (sumOfRats(x, u).Sign() != 0 || y.Cmp(v) != 0) {
				t.Error("no clack with the wall", x, y)
			}
			u, v = x, y
		}
		if len(smalls) == 0 || u.Sign() < 0 || u.Cmp(v) > 0 {
			t.Error("the last paces", u, v)
		}
	})
}

func TestClacksBesideTheWallByHand(t *testing.T) {
	for _, c := range []struct {
		small, great, count int
	}{{1, 1, 3}, {1, 2, 5}, {1, 3, 5}, {1, 4, 6}, {1, 5, 7}, {1, 8, 9}, {1, 9, 9}, {9, 1, 2}, {3, 1, 2}, {2, 1, 3}, {9, 9, 3}, {8, 9, 4}, {9, 8, 3}, {4, 4, 3}, {3, 9, 5}} {
		wantOne(t, "CountClacks", c.count)(impl.CountClacks(c.small, c.great))
		wantOne(t, "LastClack", c.count%2 == 1)(impl.LastClack(c.small, c.great))
	}
	// The last paces are 1 / 2 both: behind the wall the small one does not reach the great one.
	smalls, greats, ok := impl.ClackPaces(3, 1)
	wantList(t, "ClackPaces of the small one", pacesOf(-1, 2, 1, 2))(smalls, ok)
	wantList(t, "ClackPaces of the great one", pacesOf(1, 2, 1, 2))(greats, ok)
	smalls, greats, ok = impl.ClackPaces(9, 1)
	wantList(t, "ClackPaces of the small one", pacesOf(-1, 5, 1, 5))(smalls, ok)
	wantList(t, "ClackPaces of the great one", pacesOf(4, 5, 4, 5))(greats, ok)
	// Behind the last clack the small one rests.
	smalls, greats, ok = impl.ClackPaces(1, 3)
	wantList(t, "ClackPaces of the small one", pacesOf(-3, 2, 3, 2, -3, 2, 3, 2, 0, 1))(smalls, ok)
	wantList(t, "ClackPaces of the great one", pacesOf(-1, 2, -1, 2, 1, 2, 1, 2, 1, 1))(greats, ok)
}

func TestChainsPassTheirPaceOn(t *testing.T) {
	for count := 2; count <= 5; count++ {
		eachMasses(count, func(masses ...int) {
			// Of the longest chains some are enough, with all of those at the limits.
			if count == 5 && sumOf(masses)%5 != 0 && masses[0] != 1 && masses[4] != 9 {
				return
			}
			paces, fine := pacesOfRats(chainWalk(masses))
			if !fine {
				t.Fatal("some of", paces, "are no paces")
			}
			wantList(t, "ChainLeft", paces)(impl.ChainLeft(masses))
			wantOne(t, "ChainPace", paces[count-1])(impl.ChainPace(masses))
			if t.Failed() {
				t.Fatal("the masses are", masses)
			}
		})
	}
}

// All balls of a chain together keep the push and the energy that the first one brings.
func TestChainsKeepPushAndEnergy(t *testing.T) {
	for count := 2; count <= 4; count++ {
		eachMasses(count, func(masses ...int) {
			paces, ok := impl.ChainLeft(masses)
			if !ok || len(paces) != count {
				t.Fatal("ChainLeft", masses, paces, ok)
			}
			push, energy, onward := ratOfInt(0), ratOfInt(0), ratOfInt(1)
			for i, mass := range masses {
				one := productOfRats(ratOfInt(mass), ratOfPace(paces[i]))
				push, energy = sumOfRats(push, one), sumOfRats(energy, productOfRats(one, ratOfPace(paces[i])))
				if i > 0 {
					onward = productOfRats(onward, big.NewRat(int64(2*masses[i-1]), int64(masses[i-1]+mass)))
				}
			}
			if push.Cmp(ratOfInt(masses[0])) != 0 || energy.Cmp(ratOfInt(masses[0])) != 0 {
				t.Fatal("ChainLeft", masses, paces, "has push", push, "and energy", energy)
			}
			wantPace(t, "ChainPace", onward)(impl.ChainPace(masses))
		})
	}
}

func TestChainsByHand(t *testing.T) {
	for _, c := range []struct {
		masses []int
		paces  []impl.Pace
	}{
		{[]int{1, 1}, pacesOf(0, 1, 1, 1)},
		{[]int{9, 9, 9, 9, 9}, pacesOf(0, 1, 0, 1, 0, 1, 0, 1, 1, 1)},
		{[]int{1, 9}, pacesOf(-4, 5, 1, 5)},
		{[]int{9, 1}, pacesOf(4, 5, 9, 5)},
		{[]int{1, 2, 4}, pacesOf(-1, 3, -2, 9, 4, 9)},
		{[]int{1, 9, 1, 9, 1}, pacesOf(-4, 5, 4, 25, -36, 125, 36, 625, 81, 625)},
		{[]int{9, 8, 4, 2, 1}, pacesOf(1, 17, 6, 17, 8, 17, 32, 51, 128, 51)},
	} {
		wantList(t, "ChainLeft", c.paces)(impl.ChainLeft(c.masses))
		wantOne(t, "ChainPace", c.paces[len(c.paces)-1])(impl.ChainPace(c.masses))
	}
}

// bestMasses returns the first masses of so many balls between two others for which the last
// one is fastest, and how many masses there are for which it is.
func bestMasses(first, last, between int) ([]int, int) {
	var best []int
	fastest, count := ratOfInt(0), 0
	eachMasses(between, func(masses ...int) {
		pace := chainWalk(slices.Concat([]int{first}, masses, []int{last}))[between+1]
		switch pace.Cmp(fastest) {
		case 1:
			best, fastest, count = masses, pace, 1
		case 0:
			count++
		}
	})
	return best, count
}

func TestBestMassesBetweenTwoBalls(t *testing.T) {
	several := [3]int{}
	eachMasses(2, func(ends ...int) {
		first, last := ends[0], ends[1]
		best, count := bestMasses(first, last, 1)
		wantOne(t, "BestMiddle", best[0])(impl.BestMiddle(first, last))
		if count > 1 {
			several[1]++
		}
		best, count = bestMasses(first, last, 2)
		wantTwo(t, "BestMiddles", best[0], best[1])(impl.BestMiddles(first, last))
		if count > 1 {
			several[2]++
		}
		if t.Failed() {
			t.Fatal("the masses are", first, last)
		}
	})
	if several[1] == 0 || several[2] == 0 {
		t.Error("there are never several best masses")
	}
}

func TestBestMassesByHand(t *testing.T) {
	for _, c := range []struct{ first, last, middle, second, third int }{
		{1, 1, 1, 1, 1}, {9, 9, 9, 9, 9}, {1, 4, 2, 2, 3}, {1, 8, 3, 2, 4}, {8, 1, 3, 4, 2}, {1, 9, 3, 2, 4}, {4, 9, 6, 5, 7},
		// There are several here: between 1 and 6 both 2 and 3, and 2 with 3 or 4; between 2 and 1 both
		// 1 and 2, and 1 with 1, 2 with 1 or with 2.
		{1, 6, 2, 2, 3}, {6, 1, 2, 3, 2}, {1, 2, 1, 1, 1}, {2, 1, 1, 1, 1}, {1, 3, 2, 1, 2}, {3, 1, 2, 2, 1}, {2, 3, 2, 2, 2}, {6, 2, 3, 4, 3},
	} {
		wantOne(t, "BestMiddle", c.middle)(impl.BestMiddle(c.first, c.last))
		best, _ := bestMasses(c.first, c.last, 2)
		if !slices.Equal(best, []int{c.second, c.third}) {
			t.Error("the best masses between", c.first, c.last, "are", best)
		}
		wantTwo(t, "BestMiddles", c.second, c.third)(impl.BestMiddles(c.first, c.last))
	}
}

func TestHeightsAndWaysAreThoseOfTheBall(t *testing.T) {
	for _, keeps := range manyKeeps() {
		w := bounceWalkOf(ratOfPace(keeps), 20)
		for bounces := range 21 {
			wantPace(t, "HeightAfter", w.heights[bounces])(impl.HeightAfter(keeps, bounces))
			if bounces == 0 {
				continue
			}
			if way, ok := w.way(bounces); ok {
				wantOne(t, "WayOfBounces", way)(impl.WayOfBounces(keeps, bounces))
			} else {
				wantNone[impl.Pace](t, "WayOfBounces")(impl.WayOfBounces(keeps, bounces))
			}
			if t.Failed() {
				t.Fatal("the ball keeps", keeps, "bounces", bounces)
			}
		}
	}
}

func TestBouncesUntilBallsAreBelow(t *testing.T) {
	for _, keeps := range manyKeeps() {
		w := bounceWalkOf(ratOfPace(keeps), 20)
		parts := pacesOf(1, 1, 1, 2, 2, 3, 99, 100, 1, 1000, 999999, 1000000, 1, 999999, 1, 1000000)
		for bounces := range w.heights {
			height, ok := w.height(bounces)
			if !ok {
				break
			}
			parts = append(parts, height)
			// Just above a height, and just below it.
			for _, by := range []int64{-1, 1} {
				near := sumOfRats(w.heights[bounces], big.NewRat(by, int64(max(1, 1000000/height.Den*height.Den))))
				if p, ok := paceOfRat(near); ok && near.Sign() > 0 && near.Cmp(ratOfInt(1)) <= 0 {
					parts = append(parts, p)
				}
			}
		}
		for _, part := range parts {
			if bounces, ok := w.below(ratOfPace(part)); ok {
				wantOne(t, "BouncesBelow", bounces)(impl.BouncesBelow(keeps, part))
			} else {
				wantNone[int](t, "BouncesBelow")(impl.BouncesBelow(keeps, part))
			}
			if t.Failed() {
				t.Fatal("the ball keeps", keeps, "the part is", part)
			}
		}
	}
}

func TestHeightsByHand(t *testing.T) {
	half := paceOf(1, 2)
	for bounces := range 20 {
		wantOne(t, "HeightAfter", paceOf(1, 1<<bounces))(impl.HeightAfter(half, bounces))
	}
	// The Den is 1048576 then: no ball has a height behind 20 bounces that is a pace.
	wantNone[impl.Pace](t, "HeightAfter")(impl.HeightAfter(half, 20))
	wantOne(t, "HeightAfter", paceOf(1, 1))(impl.HeightAfter(paceOf(999999, 1000000), 0))
	wantOne(t, "HeightAfter", paceOf(999999, 1000000))(impl.HeightAfter(paceOf(999999, 1000000), 1))
	wantNone[impl.Pace](t, "HeightAfter")(impl.HeightAfter(paceOf(999999, 1000000), 2))
	wantOne(t, "HeightAfter", paceOf(998001, 1000000))(impl.HeightAfter(paceOf(999, 1000), 2))
	wantNone[impl.Pace](t, "HeightAfter")(impl.HeightAfter(paceOf(1, 1001), 2))
	wantNone[impl.Pace](t, "HeightAfter")(impl.HeightAfter(paceOf(1, 1001), 20))
	wantOne(t, "HeightAfter", paceOf(4096, 531441))(impl.HeightAfter(paceOf(2, 3), 12))
	wantNone[impl.Pace](t, "HeightAfter")(impl.HeightAfter(paceOf(2, 3), 13))

	wantOne(t, "BouncesBelow", 1)(impl.BouncesBelow(half, paceOf(1, 1)))
	wantOne(t, "BouncesBelow", 2)(impl.BouncesBelow(half, half))
	wantOne(t, "BouncesBelow", 4)(impl.BouncesBelow(half, paceOf(1, 8)))
	wantOne(t, "BouncesBelow", 3)(impl.BouncesBelow(half, paceOf(63, 500)))
	wantOne(t, "BouncesBelow", 19)(impl.BouncesBelow(half, paceOf(1, 500000)))
	wantOne(t, "BouncesBelow", 19)(impl.BouncesBelow(half, paceOf(1, 1<<18)))
	wantNone[int](t, "BouncesBelow")(impl.BouncesBelow(half, paceOf(1, 1<<19)))
	wantNone[int](t, "BouncesBelow")(impl.BouncesBelow(half, paceOf(1, 1000000)))
	wantOne(t, "BouncesBelow", 1)(impl.BouncesBelow(paceOf(999999, 1000000), paceOf(1, 1)))
	wantNone[int](t, "BouncesBelow")(impl.BouncesBelow(paceOf(999999, 1000000), paceOf(999999, 1000000)))
	wantOne(t, "BouncesBelow", 1)(impl.BouncesBelow(paceOf(1, 1000000), paceOf(1, 999999)))
	wantNone[int](t, "BouncesBelow")(impl.BouncesBelow(paceOf(1, 1000000), paceOf(1, 1000000)))
}

func TestWaysByHand(t *testing.T) {
	half := paceOf(1, 2)
	for bounce, way := range pacesOf(1, 1, 2, 1, 5, 2, 11, 4) {
		wantOne(t, "WayOfBounces", way)(impl.WayOfBounces(half, bounce+1))
	}
	wantOne(t, "WayOfBounces", paceOf(786431, 262144))(impl.WayOfBounces(half, 20))
	wantOne(t, "WayOfBounces", paceOf(1, 1))(impl.WayOfBounces(paceOf(999999, 1000000), 1))
	wantNone[impl.Pace](t, "WayOfBounces")(impl.WayOfBounces(paceOf(1, 3), 20))
	// All heights are paces here, and one way is just one, and another one just none.
	wantOne(t, "WayOfBounces", paceOf(999999, 999997))(impl.WayOfBounces(paceOf(1, 999997), 2))
	wantNone[impl.Pace](t, "WayOfBounces")(impl.WayOfBounces(paceOf(2, 999997), 2))
	wantOne(t, "WayOfBounces", paceOf(500000, 499999))(impl.WayOfBounces(paceOf(1, 999998), 2))
	wantNone[impl.Pace](t, "WayOfBounces")(impl.WayOfBounces(paceOf(1, 999999), 2))
	// The way would be a pace here, and the height behind two bounces is none.
	wantNone[impl.Pace](t, "WayOfBounces")(impl.WayOfBounces(paceOf(1, 1002), 3))
	wantOne(t, "WayOfBounces", paceOf(501001, 500000))(impl.WayOfBounces(paceOf(1, 1000), 3))
}

// A cradle is a chain of equal balls: one lifted ball passes its pace on to the last one, and
// each further one to the last one that rests then.
func TestCradles(t *testing.T) {
	for balls := 2; balls <= 10; balls++ {
		for lifted := 1; lifted < balls; lifted++ {
			moves := make([]bool, balls)
			for i := lifted - 1; i >= 0; i-- {
				last := i
				for last+1 < balls && !moves[last+1] {
					last++
				}
				moves[last] = true
			}
			wantList(t, "CradleAfter", moves)(impl.CradleAfter(balls, lifted))
		}
	}
	wantList(t, "CradleAfter", []bool{false, true})(impl.CradleAfter(2, 1))
	wantList(t, "CradleAfter", []bool{false, false, false, false, false, false, false, false, false, true})(impl.CradleAfter(10, 1))
	wantList(t, "CradleAfter", []bool{false, true, true, true, true, true, true, true, true, true})(impl.CradleAfter(10, 9))
	wantList(t, "CradleAfter", []bool{false, false, true, true, true})(impl.CradleAfter(5, 3))
}

func TestIsPaceByItsNumbers(t *testing.T) {
	for num := -40; num <= 40; num++ {
		for den := -40; den <= 40; den++ {
			want := false
			if den > 0 {
				p, _ := paceOfRat(big.NewRat(int64(num), int64(den)))
				want = p == paceOf(num, den)
			}
			if impl.IsPace(paceOf(num, den)) != want {
				t.Errorf("IsPace of %d / %d is not %v", num, den, want)
			}
		}
	}
	for _, p := range manyPaces() {
		if !impl.IsPace(p) {
			t.Error("IsPace", p)
		}
	}
	for _, p := range noPaces() {
		if impl.IsPace(p) {
			t.Error("IsPace", p)
		}
	}
	for _, num := range []int{math.MinInt, math.MinInt + 1, -1000001, 1000001, math.MaxInt} {
		for _, den := range []int{1, 2, 7, 1000000} {
			if impl.IsPace(paceOf(num, den)) || impl.IsPace(paceOf(den, num)) {
				t.Error("IsPace", num, den)
			}
		}
	}
}
