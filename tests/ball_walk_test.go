package tests

import (
	"math/big"
	"slices"
	"testing"

	"loop.example/g01270/impl"
)

func paceOf(num, den int) impl.Pace { return impl.Pace{Num: num, Den: den} }

// pacesOf returns paces whose numerators and denominators are told in turn.
func pacesOf(numbers ...int) []impl.Pace {
	var list []impl.Pace
	for pair := range slices.Chunk(numbers, 2) {
		list = append(list, paceOf(pair[0], pair[1]))
	}
	return list
}

func ratOfPace(p impl.Pace) *big.Rat { return big.NewRat(int64(p.Num), int64(p.Den)) }

func ratOfInt(n int) *big.Rat { return big.NewRat(int64(n), 1) }

func sumOfRats(list ...*big.Rat) *big.Rat {
	sum := new(big.Rat)
	for _, x := range list {
		sum.Add(sum, x)
	}
	return sum
}

func productOfRats(list ...*big.Rat) *big.Rat {
	product := ratOfInt(1)
	for _, x := range list {
		product.Mul(product, x)
	}
	return product
}

func lessRat(a, b *big.Rat) *big.Rat { return new(big.Rat).Sub(a, b) }

func quotientOfRats(a, b *big.Rat) *big.Rat { return new(big.Rat).Quo(a, b) }

// paceOfRat returns a fraction as a pace, if it is one: big.Rat keeps it in lowest terms.
func paceOfRat(x *big.Rat) (impl.Pace, bool) {
	most := big.NewInt(1000000)
	if x.Num().CmpAbs(most) > 0 || x.Denom().Cmp(most) > 0 {
		return impl.Pace{}, false
	}
	return paceOf(int(x.Num().Int64()), int(x.Denom().Int64())), true
}

// pacesOfRats returns fractions as paces, if all of them are some.
func pacesOfRats(list []*big.Rat) ([]impl.Pace, bool) {
	var paces []impl.Pace
	for _, x := range list {
		p, ok := paceOfRat(x)
		if !ok {
			return nil, false
		}
		paces = append(paces, p)
	}
	return paces, true
}

// wantPace looks that a call succeeds with a fraction if it is a pace, and fails otherwise.
func wantPace(t *testing.T, name string, want *big.Rat) func(got impl.Pace, ok bool) {
	t.Helper()
	if p, ok := paceOfRat(want); ok {
		return wantOne(t, name, p)
	}
	return wantNone[impl.Pace](t, name)
}

// wantTwoPaces looks that a call succeeds with two fractions if both are paces, and fails otherwise.
func wantTwoPaces(t *testing.T, name string, one, two *big.Rat) func(a, b impl.Pace, ok bool) {
	t.Helper()
	want, fine := pacesOfRats([]*big.Rat{one, two})
	return func(a, b impl.Pace, ok bool) {
		t.Helper()
		if ok != fine || ok && (a != want[0] || b != want[1]) || !ok && !allZero([]any{a, b}) {
			t.Errorf("%s: %v, %v, %v, not %v and %v, %v", name, a, b, ok, one, two, fine)
		}
	}
}

// pushOfRats returns m u and n v together.
func pushOfRats(m int, u *big.Rat, n int, v *big.Rat) *big.Rat {
	return sumOfRats(productOfRats(ratOfInt(m), u), productOfRats(ratOfInt(n), v))
}

// energyOfRats returns m u u and n v v together.
func energyOfRats(m int, u *big.Rat, n int, v *big.Rat) *big.Rat {
	return pushOfRats(m, productOfRats(u, u), n, productOfRats(v, v))
}

// clackOfRats returns the only paces with which two balls go apart as fast as they came
// together, and keep their push.
func clackOfRats(m int, u *big.Rat, n int, v *big.Rat) (*big.Rat, *big.Rat) {
	nearer := lessRat(u, v)
	left := lessRat(pushOfRats(m, u, n, v), productOfRats(ratOfInt(n), nearer))
	left.Quo(left, ratOfInt(m+n))
	return left, sumOfRats(left, nearer)
}

// clackWalk is what a small ball between a wall and a great one does, clack by clack: both
// paces behind each one, and whether it is one of both balls.
type clackWalk struct {
	smalls, greats []*big.Rat
	ofBoth         []bool
}

// clackWalkOf leads both balls by their places: the small one rests at 1, the wall is at 0,
// and the great one comes from 2.
func clackWalkOf(small, great int) clackWalk {
	w := clackWalk{}
	x, y, u, v := ratOfInt(1), ratOfInt(2), ratOfInt(0), ratOfInt(-1)
	for {
		var untilWall, untilBoth *big.Rat
		if u.Sign() < 0 {
			untilWall = quotientOfRats(x, new(big.Rat).Neg(u))
		}
		if u.Cmp(v) > 0 {
			untilBoth = quotientOfRats(lessRat(y, x), lessRat(u, v))
		}
		if untilWall == nil && untilBoth == nil {
			return w
		}
		ofBoth := untilWall == nil || untilBoth != nil && untilBoth.Cmp(untilWall) < 0
		lasts := untilWall
		if ofBoth {
			lasts = untilBoth
		}
		x, y = sumOfRats(x, productOfRats(u, lasts)), sumOfRats(y, productOfRats(v, lasts))
		if ofBoth {
			u, v = clackOfRats(small, u, great, v)
		} else {
			u = new(big.Rat).Neg(u)
		}
		w.smalls, w.greats, w.ofBoth = append(w.smalls, u), append(w.greats, v), append(w.ofBoth, ofBoth)
	}
}

// chainWalk returns the paces of all balls of a chain behind the clack of each one with the next one.
func chainWalk(masses []int) []*big.Rat {
	paces := []*big.Rat{ratOfInt(1)}
	for i := 1; i < len(masses); i++ {
		left, onward := clackOfRats(masses[i-1], paces[i-1], masses[i], ratOfInt(0))
		paces[i-1] = left
		paces = append(paces, onward)
	}
	return paces
}

// eachMasses runs a check with all lists of so many masses.
func eachMasses(count int, check func(masses ...int)) {
	if count == 0 {
		check()
		return
	}
	for mass := 1; mass <= impl.MaxMass; mass++ {
		eachMasses(count-1, func(more ...int) { check(append([]int{mass}, more...)...) })
	}
}

// bounceWalk is what a ball does that falls from the height 1: its heights behind 0, 1, ..
// bounces, and its ways up to the bounces 1, 2, ..
type bounceWalk struct{ heights, ways []*big.Rat }

// bounceWalkOf lets a ball fall and come up again.
func bounceWalkOf(keeps *big.Rat, bounces int) bounceWalk {
	height, way := ratOfInt(1), ratOfInt(0)
	w := bounceWalk{heights: []*big.Rat{height}}
	for range bounces {
		way = sumOfRats(way, height)
		w.ways = append(w.ways, way)
		height = productOfRats(height, keeps)
		way = sumOfRats(way, height)
		w.heights = append(w.heights, height)
	}
	return w
}

// height returns the height behind so many bounces, and whether it is a pace.
func (w bounceWalk) height(bounces int) (impl.Pace, bool) { return paceOfRat(w.heights[bounces]) }

// way returns the way up to the bounce with a number. It fails if it, one before, or a
// height between is no pace.
func (w bounceWalk) way(bounce int) (impl.Pace, bool) {
	if _, ok := pacesOfRats(slices.Concat(w.heights[1:bounce], w.ways[:bounce])); !ok {
		return impl.Pace{}, false
	}
	return paceOfRat(w.ways[bounce-1])
}

// below returns the first number of bounces behind which the height is less than a part. It
// fails if the height behind one up to it is no pace.
func (w bounceWalk) below(part *big.Rat) (int, bool) {
	for bounces, height := range w.heights {
		if _, ok := paceOfRat(height); !ok {
			return 0, false
		}
		if height.Cmp(part) < 0 {
			return bounces, true
		}
	}
	return 0, false
}

// smallPaces returns all paces with a Num of a size up to one number and a Den up to another one.
func smallPaces(num, den int) []impl.Pace {
	known := map[impl.Pace]bool{}
	var list []impl.Pace
	for n := -num; n <= num; n++ {
		for d := 1; d <= den; d++ {
			if p, ok := paceOfRat(big.NewRat(int64(n), int64(d))); ok && !known[p] {
				known[p] = true
				list = append(list, p)
			}
		}
	}
	return list
}

// greatPaces returns paces at the limits, and near them.
func greatPaces() []impl.Pace {
	return pacesOf(
		1000000, 1, -1000000, 1, 999999, 1, -999999, 1, 1, 1000000, -1, 1000000, 999999, 1000000, -999999, 1000000, 1000000, 999999, -1000000, 999999, 1, 999999,
		1000, 1, -1000, 1, 1001, 1, 1, 1000, 1, 1001, 1000, 999, -999, 1000, 1000, 1001, 1001, 1000, 999, 1000, 500000, 1, 100000, 9, 100000, 1, -55555, 1, 1, 100000,
	)
}

// thrownPaces returns paces with few and with many digits.
func thrownPaces(count int) []impl.Pace {
	d := dice(19)
	var list []impl.Pace
	for len(list) < count {
		most := []int{20, 1000, impl.MaxPaceNum}[d.below(3)]
		if p, ok := paceOfRat(big.NewRat(int64(d.below(2*most+1)-most), int64(1+d.below(most)))); ok {
			list = append(list, p)
		}
	}
	return list
}

func manyPaces() []impl.Pace {
	return slices.Concat(smallPaces(2, 3), greatPaces(), thrownPaces(12))
}

// eachTwoBalls runs a check with many masses and paces of two balls.
func eachTwoBalls(t *testing.T, check func(m int, u impl.Pace, n int, v impl.Pace)) {
	t.Helper()
	masses := []int{1, 2, 3, 4, 8, 9}
	paces := manyPaces()
	for _, u := range paces {
		for _, v := range paces {
			for _, m := range masses {
				for _, n := range masses {
					check(m, u, n, v)
					if t.Failed() {
						t.Fatal("the balls have", m, u, "and", n, v)
					}
				}
			}
		}
	}
}

// manyKeeps returns parts of heights that balls come up to, with small numbers and with great ones.
func manyKeeps() []impl.Pace {
	var list []impl.Pace
	for _, p := range slices.Concat(smallPaces(40, 40), thrownPaces(60)) {
		if p.Num > 0 && p.Num < p.Den {
			list = append(list, p)
		}
	}
	return append(list, pacesOf(
		1, 100, 99, 100, 1, 99, 1, 101, 100, 101, 1, 999, 998, 999, 1, 1000, 999, 1000, 1, 1001, 1, 1002, 1, 1003, 1000, 1001, 31, 32, 1, 64, 1, 1000000, 999999, 1000000, 1, 999999,
		1, 999998, 499999, 500000, 249999, 500000, 250001, 500000, 499999, 999999, 500000, 999999, 333333, 1000000,
	)...)
}
