package tests

import (
	"math"
	"math/big"
	"slices"
	"testing"

	"loop.example/g01270/impl"
)

func moment(num, den int) impl.Moment { return impl.Moment{Num: num, Den: den} }

// fractions returns moments whose numerators and denominators are told in turn.
func fractions(numbers ...int) []impl.Moment {
	var list []impl.Moment
	for pair := range slices.Chunk(numbers, 2) {
		list = append(list, moment(pair[0], pair[1]))
	}
	return list
}

// wantNone looks that a call fails, with a zero result.
func wantNone[T any](t *testing.T, name string) func(got T, ok bool) {
	t.Helper()
	return func(got T, ok bool) {
		t.Helper()
		if ok || !allZero([]any{got}) {
			t.Errorf("%s: %v, %v, not a failure", name, got, ok)
		}
	}
}

func TestExampleOfSpeeds(t *testing.T) {
	list := runnersOf(0, 2, 6, -1, 10, -2)
	wantList(t, "PlacesAt 2", fractions(4, 1, 4, 1, 6, 1))(impl.PlacesAt(list, moment(2, 1)))
	wantList(t, "PacesBehind 2", []int{-1, 2, -2})(impl.PacesBehind(list, moment(2, 1)))
	wantOne(t, "FirstMeet", moment(2, 1))(impl.FirstMeet(list))
	wantOne(t, "LastMeet", moment(4, 1))(impl.LastMeet(list))
	wantList(t, "MeetMoments", fractions(2, 1, 5, 2, 4, 1))(impl.MeetMoments(list))
	wantOne(t, "CountMeetsEver", 3)(impl.CountMeetsEver(list))
	wantList(t, "FinalPaces", []int{-2, -1, 2})(impl.FinalPaces(list))
	sum, squares, ok := impl.KeptSums(list)
	if sum != -1 || squares != 9 || !ok {
		t.Error("KeptSums", sum, squares, ok)
	}
	wantList(t, "PlacesAt 5 / 2", fractions(7, 2, 5, 1, 5, 1))(impl.PlacesAt(list, moment(5, 2)))
	wantList(t, "PacesBehind 5 / 2", []int{-1, -2, 2})(impl.PacesBehind(list, moment(5, 2)))
	for k, want := range []int{2, 3, 1} {
		wantOne(t, "MeetsOf", want)(impl.MeetsOf(list, k))
	}
	wantOne(t, "MiddleAt 2", moment(14, 3))(impl.MiddleAt(list, moment(2, 1)))
	wantList(t, "WatchFrom 1", runnersOf(0, 1, 6, -2, 10, -3))(impl.WatchFrom(list, 1))
	wantList(t, "FromBehind", runnersOf(990, 2, 994, 1, 1000, -2))(impl.FromBehind(list))
}

func TestRunnersAreWhereTheyRun(t *testing.T) {
	eachRace(t, func(list []impl.Runner, w race) {
		for _, look := range w.looks() {
			if places, ok := momentsOf(w.placesAt(ratOf(look))); ok {
				wantList(t, "PlacesAt", places)(impl.PlacesAt(list, look))
			} else {
				wantNone[[]impl.Moment](t, "PlacesAt")(impl.PlacesAt(list, look))
			}
			wantList(t, "PacesBehind", w.at(ratOf(look)).paces)(impl.PacesBehind(list, look))
			wantOne(t, "CountMeetsBy", w.pairsBy(ratOf(look)))(impl.CountMeetsBy(list, look))
			if t.Failed() {
				t.Fatal("at the time", look, "of", list)
			}
		}
	})
}

func TestRunnersAreWhereGhostsAre(t *testing.T) {
	eachRace(t, func(list []impl.Runner, w race) {
		for _, look := range w.looks() {
			var ghosts []*big.Rat
			for _, r := range list {
				far := new(big.Rat).Mul(ratOf(look), big.NewRat(int64(r.Pace), 1))
				ghosts = append(ghosts, far.Add(far, big.NewRat(int64(r.At), 1)))
			}
			slices.SortFunc(ghosts, (*big.Rat).Cmp)
			if places, ok := momentsOf(ghosts); ok {
				wantList(t, "PlacesAt", places)(impl.PlacesAt(list, look))
			} else {
				wantNone[[]impl.Moment](t, "PlacesAt")(impl.PlacesAt(list, look))
			}
		}
	})
}

func TestRunnersMeetAsTheyRun(t *testing.T) {
	eachRace(t, func(list []impl.Runner, w race) {
		times := w.meetTimes()
		wantList(t, "MeetMoments", times)(impl.MeetMoments(list))
		if len(times) > 0 {
			wantOne(t, "FirstMeet", times[0])(impl.FirstMeet(list))
			wantOne(t, "LastMeet", times[len(times)-1])(impl.LastMeet(list))
		} else {
			wantNone[impl.Moment](t, "FirstMeet")(impl.FirstMeet(list))
			wantNone[impl.Moment](t, "LastMeet")(impl.LastMeet(list))
		}
		wantOne(t, "CountMeetsEver", w.pairsBy(w.last().time))(impl.CountMeetsEver(list))
		wantList(t, "FinalPaces", w.last().paces)(impl.FinalPaces(list))
		for k := range list {
			wantOne(t, "MeetsOf", w.meetsOf(k))(impl.MeetsOf(list, k))
		}
	})
}

// As many pairs meet as told: those of ghosts, and each of both runners counts each of its meetings.
func TestMeetsAreAsManyAsTold(t *testing.T) {
	eachRace(t, func(list []impl.Runner, w race) {
		pairs, all := 0, 0
		for i, a := range list {
			for _, b := range list[i+1:] {
				if a.Pace > b.Pace {
					pairs++
				}
			}
			meets, _ := impl.MeetsOf(list, i)
			all += meets
		}
		wantOne(t, "CountMeetsEver", pairs)(impl.CountMeetsEver(list))
		wantOne(t, "CountMeetsBy at 0", 0)(impl.CountMeetsBy(list, moment(0, 1)))
		// The slowest to meet are 1000 apart and come nearer by 1 in a time of 1.
		wantOne(t, "CountMeetsBy at 1000", pairs)(impl.CountMeetsBy(list, moment(1000, 1)))
		if all != 2*pairs {
			t.Error("MeetsOf all are", all, "of", pairs, "pairs")
		}
	})
}

func TestMiddleOfRunners(t *testing.T) {
	eachRace(t, func(list []impl.Runner, w race) {
		for _, look := range w.looks() {
			if len(list) == 0 {
				wantNone[impl.Moment](t, "MiddleAt")(impl.MiddleAt(list, look))
				continue
			}
			sum := new(big.Rat)
			for _, place := range w.placesAt(ratOf(look)) {
				sum.Add(sum, place)
			}
			sum.Quo(sum, big.NewRat(int64(len(list)), 1))
			if middle, ok := momentOf(sum); ok {
				wantOne(t, "MiddleAt", middle)(impl.MiddleAt(list, look))
			} else {
				wantNone[impl.Moment](t, "MiddleAt")(impl.MiddleAt(list, look))
			}
		}
	})
}

func TestSumsAreKept(t *testing.T) {
	eachRace(t, func(list []impl.Runner, w race) {
		sum, squares, ok := impl.KeptSums(list)
		for _, s := range w.stages {
			kept := 0
			for _, pace := range s.paces {
				kept += pace * pace
			}
			if !ok || sum != sumOf(s.paces) || squares != kept {
				t.Error("KeptSums", sum, squares, ok)
			}
		}
	})
}

// Who watches from a pace sees the same meetings, and each place less by the way gone.
func TestRunnersThatAreWatched(t *testing.T) {
	eachRace(t, func(list []impl.Runner, w race) {
		for _, pace := range []int{-9, -2, -1, 0, 1, 3, 9} {
			var want []impl.Runner
			for _, r := range list {
				want = append(want, impl.Runner{At: r.At, Pace: r.Pace - pace})
			}
			if slices.ContainsFunc(want, func(r impl.Runner) bool { return max(r.Pace, -r.Pace) > impl.MaxPace }) {
				wantNone[[]impl.Runner](t, "WatchFrom")(impl.WatchFrom(list, pace))
				continue
			}
			wantList(t, "WatchFrom", want)(impl.WatchFrom(list, pace))
			wantList(t, "MeetMoments", w.meetTimes())(impl.MeetMoments(want))
			for _, s := range w.stages {
				time, _ := momentOf(s.time)
				gone := new(big.Rat).Mul(s.time, big.NewRat(int64(pace), 1))
				var seen []*big.Rat
				for _, place := range s.places {
					seen = append(seen, new(big.Rat).Sub(place, gone))
				}
				places, _ := momentsOf(seen)
				wantList(t, "PlacesAt", places)(impl.PlacesAt(want, time))
			}
		}
	})
}

func TestRunnersFromTheOtherSide(t *testing.T) {
	eachRace(t, func(list []impl.Runner, w race) {
		var want []impl.Runner
		for i := len(list) - 1; i >= 0; i-- {
			want = append(want, impl.Runner{At: 1000 - list[i].At, Pace: -list[i].Pace})
		}
		got, ok := impl.FromBehind(list)
		wantList(t, "FromBehind", want)(got, ok)
		wantList(t, "FromBehind twice", list)(impl.FromBehind(got))
		wantList(t, "MeetMoments", w.meetTimes())(impl.MeetMoments(got))
		for k := range list {
			wantOne(t, "MeetsOf", w.meetsOf(k))(impl.MeetsOf(got, len(list)-1-k))
		}
	})
}

func TestNoRunners(t *testing.T) {
	for _, list := range [][]impl.Runner{nil, {}} {
		in := []speedArgs{{List: list, Time: moment(0, 1)}, {List: list, Time: moment(1000000, 1)}, {List: list, Time: moment(5, 2), Pace: 9}}
		fails := []string{"FirstMeet", "LastMeet", "MeetsOf", "MiddleAt"}
		checkFails(t, speedCalls, in, fails...)
		names := namesBut(speedCalls, fails...)
		checkSucceeds(t, speedCalls, in, names...)
		for _, c := range chosen(t, speedCalls, names...) {
			if out, _ := c.call(in[1]); !allZero(out) {
				t.Error(c.name, "of no runners is", out)
			}
		}
		for pace := -impl.MaxPace; pace <= impl.MaxPace; pace++ {
			wantList(t, "WatchFrom", runnersOf())(impl.WatchFrom(list, pace))
		}
	}
}

func TestOneRunner(t *testing.T) {
	list := runnersOf(7, -3)
	wantList(t, "PlacesAt 0", fractions(7, 1))(impl.PlacesAt(list, moment(0, 1)))
	wantList(t, "PlacesAt 7 / 3", fractions(0, 1))(impl.PlacesAt(list, moment(7, 3)))
	wantList(t, "PlacesAt 5 / 2", fractions(-1, 2))(impl.PlacesAt(list, moment(5, 2)))
	wantList(t, "PacesBehind", []int{-3})(impl.PacesBehind(list, moment(5, 2)))
	wantOne(t, "CountMeetsBy", 0)(impl.CountMeetsBy(list, moment(1000000, 1)))
	wantOne(t, "CountMeetsEver", 0)(impl.CountMeetsEver(list))
	wantNone[impl.Moment](t, "FirstMeet")(impl.FirstMeet(list))
	wantNone[impl.Moment](t, "LastMeet")(impl.LastMeet(list))
	wantList(t, "MeetMoments", fractions())(impl.MeetMoments(list))
	wantList(t, "FinalPaces", []int{-3})(impl.FinalPaces(list))
	wantOne(t, "MeetsOf", 0)(impl.MeetsOf(list, 0))
	wantOne(t, "MiddleAt", moment(-1, 2))(impl.MiddleAt(list, moment(5, 2)))
	wantList(t, "WatchFrom", runnersOf(7, 0))(impl.WatchFrom(list, -3))
	wantList(t, "FromBehind", runnersOf(993, 3))(impl.FromBehind(list))
}

func TestRunnersThatStandStill(t *testing.T) {
	still := runnersOf(0, 0, 5, 0, 1000, 0)
	for _, look := range fractions(0, 1, 1, 1000, 7, 3, 1000000, 1) {
		wantList(t, "PlacesAt", fractions(0, 1, 5, 1, 1000, 1))(impl.PlacesAt(still, look))
		wantList(t, "PacesBehind", []int{0, 0, 0})(impl.PacesBehind(still, look))
		wantOne(t, "CountMeetsBy", 0)(impl.CountMeetsBy(still, look))
		wantOne(t, "MiddleAt", moment(335, 1))(impl.MiddleAt(still, look))
	}
	wantList(t, "MeetMoments", fractions())(impl.MeetMoments(still))

	// One that is met goes on, and the other one stands still where they met.
	list := runnersOf(0, 2, 5, 0, 10, 0)
	wantList(t, "MeetMoments", fractions(5, 2, 5, 1))(impl.MeetMoments(list))
	wantList(t, "PacesBehind 5 / 2", []int{0, 2, 0})(impl.PacesBehind(list, moment(5, 2)))
	wantList(t, "PlacesAt 3", fractions(5, 1, 6, 1, 10, 1))(impl.PlacesAt(list, moment(3, 1)))
	wantList(t, "PlacesAt 6", fractions(5, 1, 10, 1, 12, 1))(impl.PlacesAt(list, moment(6, 1)))
	for k, want := range []int{1, 2, 1} {
		wantOne(t, "MeetsOf", want)(impl.MeetsOf(list, k))
	}
}

func TestRunnersThatNeverMeet(t *testing.T) {
	for _, list := range [][]impl.Runner{
		runnersOf(0, 4, 6, 4, 7, 4), runnersOf(0, -2, 1, -1, 2, 0, 3, 1, 4, 2), runnersOf(0, -9, 1, -9, 999, 9, 1000, 9), runnersOf(0, 0, 1, 0, 2, 3),
	} {
		wantNone[impl.Moment](t, "FirstMeet")(impl.FirstMeet(list))
		wantNone[impl.Moment](t, "LastMeet")(impl.LastMeet(list))
		wantList(t, "MeetMoments", fractions())(impl.MeetMoments(list))
		wantOne(t, "CountMeetsEver", 0)(impl.CountMeetsEver(list))
		wantOne(t, "CountMeetsBy", 0)(impl.CountMeetsBy(list, moment(1000000, 1)))
		var paces []int
		for k, r := range list {
			paces = append(paces, r.Pace)
			wantOne(t, "MeetsOf", 0)(impl.MeetsOf(list, k))
		}
		wantList(t, "FinalPaces", paces)(impl.FinalPaces(list))
		wantList(t, "PacesBehind", paces)(impl.PacesBehind(list, moment(1000, 1)))
	}
}

func TestMoreThanTwoThatMeetInOnePlace(t *testing.T) {
	list := runnersOf(0, 3, 8, -1, 10, -2)
	wantList(t, "MeetMoments", fractions(2, 1))(impl.MeetMoments(list))
	wantList(t, "PlacesAt 2", fractions(6, 1, 6, 1, 6, 1))(impl.PlacesAt(list, moment(2, 1)))
	wantList(t, "PacesBehind 2", []int{-2, -1, 3})(impl.PacesBehind(list, moment(2, 1)))
	wantList(t, "PacesBehind 19 / 10", []int{3, -1, -2})(impl.PacesBehind(list, moment(19, 10)))
	wantList(t, "PlacesAt 21 / 10", fractions(29, 5, 59, 10, 63, 10))(impl.PlacesAt(list, moment(21, 10)))
	wantOne(t, "CountMeetsBy 19 / 10", 0)(impl.CountMeetsBy(list, moment(19, 10)))
	wantOne(t, "CountMeetsBy 2", 3)(impl.CountMeetsBy(list, moment(2, 1)))
	for k := range list {
		wantOne(t, "MeetsOf", 2)(impl.MeetsOf(list, k))
	}

	// Behind a meeting of three the ones outside meet others, and those of one pace each other never.
	list = runnersOf(0, 2, 3, 0, 6, -2, 10, -2, 12, 1)
	wantList(t, "MeetMoments", fractions(3, 2, 5, 2, 7, 2, 12, 1))(impl.MeetMoments(list))
	wantList(t, "PacesBehind 3 / 2", []int{-2, 0, 2, -2, 1})(impl.PacesBehind(list, moment(3, 2)))
	for k, want := range []int{2, 3, 4, 2, 1} {
		wantOne(t, "MeetsOf", want)(impl.MeetsOf(list, k))
	}
}

func TestSeveralMeetingsAtOneTimeOfRunners(t *testing.T) {
	list := runnersOf(0, 1, 2, -1, 10, 1, 12, -1, 40, 3, 42, 1)
	wantList(t, "MeetMoments", fractions(1, 1, 6, 1))(impl.MeetMoments(list))
	wantOne(t, "CountMeetsBy 1", 3)(impl.CountMeetsBy(list, moment(1, 1)))
	wantOne(t, "CountMeetsBy 999 / 1000", 0)(impl.CountMeetsBy(list, moment(999, 1000)))
	wantOne(t, "CountMeetsBy 6", 4)(impl.CountMeetsBy(list, moment(6, 1)))
	wantList(t, "PlacesAt 1", fractions(1, 1, 1, 1, 11, 1, 11, 1, 43, 1, 43, 1))(impl.PlacesAt(list, moment(1, 1)))
	wantList(t, "PacesBehind 1", []int{-1, 1, -1, 1, 1, 3})(impl.PacesBehind(list, moment(1, 1)))
	for k, want := range []int{1, 2, 2, 1, 1, 1} {
		wantOne(t, "MeetsOf", want)(impl.MeetsOf(list, k))
	}
}

func TestMomentsAreInLowestTerms(t *testing.T) {
	wantOne(t, "FirstMeet", moment(1, 2))(impl.FirstMeet(runnersOf(0, 4, 4, -4)))
	wantOne(t, "FirstMeet", moment(500, 9))(impl.FirstMeet(runnersOf(0, 9, 1000, -9)))
	wantOne(t, "FirstMeet", moment(1, 18))(impl.FirstMeet(runnersOf(0, 9, 1, -9)))
	wantOne(t, "LastMeet", moment(1000, 1))(impl.LastMeet(runnersOf(0, 1, 1000, 0)))
	wantOne(t, "LastMeet", moment(999, 17))(impl.LastMeet(runnersOf(1, 9, 1000, -8)))
	// 2 / 4 and 3 / 6 are one time.
	wantList(t, "MeetMoments", fractions(1, 2))(impl.MeetMoments(runnersOf(0, 2, 2, -2, 10, 8, 13, 2)))
	wantList(t, "PlacesAt", fractions(1, 2, 1, 1))(impl.PlacesAt(runnersOf(0, 2, 1, 0), moment(1, 4)))
	wantList(t, "PlacesAt", fractions(-1, 2, 0, 1))(impl.PlacesAt(runnersOf(0, -2, 1, -4), moment(1, 4)))
	wantOne(t, "MiddleAt", moment(3, 2))(impl.MiddleAt(runnersOf(0, 1, 1, 0, 2, 0, 3, -1), moment(3, 1)))
	wantOne(t, "MiddleAt", moment(0, 1))(impl.MiddleAt(runnersOf(0, -1, 4, -1), moment(2, 1)))
}

func TestMomentsOfGreatestSize(t *testing.T) {
	for _, c := range []struct {
		list []impl.Runner
		time impl.Moment
		want []impl.Moment
	}{
		{runnersOf(0, 1), moment(1000000, 1), fractions(1000000, 1)},
		{runnersOf(0, -1), moment(1000000, 1), fractions(-1000000, 1)},
		{runnersOf(1000, 0), moment(1000000, 1), fractions(1000, 1)},
		{runnersOf(1000, -2), moment(500500, 1), fractions(-1000000, 1)},
		{runnersOf(0, 1, 1000, 1), moment(999000, 1), fractions(999000, 1, 1000000, 1)},
		{runnersOf(0, 1), moment(1000000, 999), fractions(1000000, 999)},
		{runnersOf(1, 1), moment(999001, 999), fractions(1000000, 999)},
		{runnersOf(0, -1), moment(1000000, 999), fractions(-1000000, 999)},
		{runnersOf(0, 1), moment(1, 1000), fractions(1, 1000)},
		{runnersOf(0, -1), moment(1, 1000), fractions(-1, 1000)},
		{runnersOf(999, 1), moment(1, 1000), fractions(999001, 1000)},
		{runnersOf(1000, -1), moment(1, 1000), fractions(999999, 1000)},
		{runnersOf(1000, 2), moment(1, 1000), fractions(500001, 500)},
		{runnersOf(0, 1), moment(999999, 1000), fractions(999999, 1000)},
	} {
		wantList(t, "PlacesAt", c.want)(impl.PlacesAt(c.list, c.time))
	}
}

func TestPlacesThatAreNoMoments(t *testing.T) {
	for _, in := range []speedArgs{
		{List: runnersOf(1, 1), Time: moment(1000000, 1)},
		{List: runnersOf(0, 2), Time: moment(500001, 1)},
		{List: runnersOf(0, 9), Time: moment(1000000, 1)},
		{List: runnersOf(0, -9), Time: moment(1000000, 1)},
		{List: runnersOf(1000, -2), Time: moment(500501, 1)},
		{List: runnersOf(2, 1), Time: moment(999001, 999)},
		{List: runnersOf(1000, 1), Time: moment(1, 1000)},
		// One place that is no moment is enough.
		{List: runnersOf(0, 1, 1000, 1), Time: moment(999001, 1)},
		{List: runnersOf(0, -1, 1000, 1), Time: moment(1, 1000)},
		{List: runnersOf(0, -2, 1, 0, 1000, 0), Time: moment(500001, 1)},
	} {
		checkFails(t, speedCalls, []speedArgs{in}, "PlacesAt")
		// Paces and counts are no moments: they are told all the same.
		checkSucceeds(t, speedCalls, []speedArgs{in}, "PacesBehind", "CountMeetsBy")
	}
	list := runnersOf(0, 9, 1000, -9)
	wantList(t, "PacesBehind", []int{-9, 9})(impl.PacesBehind(list, moment(1000000, 1)))
	wantOne(t, "CountMeetsBy", 1)(impl.CountMeetsBy(list, moment(1000000, 1)))
}

func TestMiddlesAtTheLimitsOfMoments(t *testing.T) {
	list := runnersOf(0, 1, 2, 0)
	wantOne(t, "MiddleAt", moment(1001, 1000))(impl.MiddleAt(list, moment(1, 500)))
	wantNone[impl.Moment](t, "MiddleAt")(impl.MiddleAt(list, moment(1, 501)))
	wantNone[impl.Moment](t, "MiddleAt")(impl.MiddleAt(list, moment(1, 1000)))
	list = runnersOf(0, -2, 4, -1)
	wantOne(t, "MiddleAt", moment(-1000000, 1))(impl.MiddleAt(list, moment(666668, 1)))
	wantNone[impl.Moment](t, "MiddleAt")(impl.MiddleAt(list, moment(666669, 1)))
	// The middle may be a moment though a place is none.
	list = runnersOf(0, 1, 1000, 1)
	wantNone[[]impl.Moment](t, "PlacesAt")(impl.PlacesAt(list, moment(999500, 1)))
	wantOne(t, "MiddleAt", moment(1000000, 1))(impl.MiddleAt(list, moment(999500, 1)))
	wantNone[impl.Moment](t, "MiddleAt")(impl.MiddleAt(list, moment(999501, 1)))
	wantOne(t, "MiddleAt", moment(500, 1))(impl.MiddleAt(runnersOf(0, 9, 1000, -9), moment(1000000, 1)))
}

func TestMostRunnersThatMeetInOnePlace(t *testing.T) {
	list := bunch(impl.MaxRunners)
	wantList(t, "MeetMoments", fractions(50, 1))(impl.MeetMoments(list))
	wantOne(t, "CountMeetsEver", 66)(impl.CountMeetsEver(list))
	wantOne(t, "CountMeetsBy 49", 0)(impl.CountMeetsBy(list, moment(49, 1)))
	wantOne(t, "CountMeetsBy 50", 66)(impl.CountMeetsBy(list, moment(50, 1)))
	wantList(t, "PlacesAt 50", slices.Repeat(fractions(500, 1), 12))(impl.PlacesAt(list, moment(50, 1)))
	turned := []int{-2, -1, 0, 1, 2, 3, 4, 5, 6, 7, 8, 9}
	wantList(t, "PacesBehind 50", turned)(impl.PacesBehind(list, moment(50, 1)))
	wantList(t, "FinalPaces", turned)(impl.FinalPaces(list))
	for k := range list {
		wantOne(t, "MeetsOf", 11)(impl.MeetsOf(list, k))
	}
}

func TestLimitsOfRunnersMetExactly(t *testing.T) {
	list := runnersOf(0, 9, 100, 9, 200, 9, 300, 9, 400, 9, 500, 9, 600, -9, 700, -9, 800, -9, 900, -9, 999, -9, 1000, -9)
	checkSucceeds(t, speedCalls, []speedArgs{{List: list, Time: moment(5, 1)}}, namesBut(speedCalls)...)
	wantOne(t, "CountMeetsEver", 36)(impl.CountMeetsEver(list))
	wantOne(t, "FirstMeet", moment(50, 9))(impl.FirstMeet(list))
	wantOne(t, "LastMeet", moment(500, 9))(impl.LastMeet(list))
	sum, squares, ok := impl.KeptSums(list)
	if sum != 0 || squares != 972 || !ok {
		t.Error("KeptSums", sum, squares, ok)
	}
	for _, runners := range [][]impl.Runner{{}, runnersOf(0, -9), runnersOf(0, 9), runnersOf(1000, -9), runnersOf(1000, 9), runnersOf(0, 0, 1, 0), list} {
		if !impl.AreRunners(runners) {
			t.Error("AreRunners", runners)
		}
	}
}

func TestWatchersWithTheGreatestPace(t *testing.T) {
	wantList(t, "WatchFrom 9", runnersOf(5, 0))(impl.WatchFrom(runnersOf(5, 9), 9))
	wantList(t, "WatchFrom -9", runnersOf(5, 0))(impl.WatchFrom(runnersOf(5, -9), -9))
	wantList(t, "WatchFrom 9", runnersOf(0, -9, 4, -8, 1000, 0))(impl.WatchFrom(runnersOf(0, 0, 4, 1, 1000, 9), 9))
	wantList(t, "WatchFrom -9", runnersOf(0, 9, 4, 8, 1000, 0))(impl.WatchFrom(runnersOf(0, 0, 4, -1, 1000, -9), -9))
}

// The pace of who watches has a limit, whatever paces the runners seem to have then.
func TestWatchersWithTooGreatAPace(t *testing.T) {
	for _, list := range [][]impl.Runner{
		nil, {}, runnersOf(3, 3), runnersOf(5, 9), runnersOf(5, -9), runnersOf(0, 9, 4, 9), runnersOf(0, -9, 1000, -1), runnersOf(0, 1, 4, 9), runnersOf(0, 0), bunch(impl.MaxRunners),
	} {
		for _, pace := range tooGreatPaces() {
			wantNone[[]impl.Runner](t, "WatchFrom")(impl.WatchFrom(list, pace))
		}
	}
}

func TestRunnersWhoSeemToHaveTooGreatAPace(t *testing.T) {
	fast, slow, both := runnersOf(0, 9, 4, 9), runnersOf(0, -9), runnersOf(0, 9, 4, -9)
	wantList(t, "WatchFrom 0", both)(impl.WatchFrom(both, 0))
	for _, c := range []struct {
		list  []impl.Runner
		paces []int
	}{
		{fast, []int{-1, -9}}, {slow, []int{1, 9}}, {both, []int{-1, 1, 9, -9}}, {runnersOf(0, 0, 1, 1), []int{-9}}, {runnersOf(0, -1, 1, 0), []int{9}},
		// A list that is none does not become runners for who watches.
		{runnersOf(4, 10), []int{1, 9, 10, 19}}, {runnersOf(4, -10), []int{-1, -9, -10, -19}}, {runnersOf(4, math.MaxInt), []int{9, math.MaxInt}}, {runnersOf(4, math.MinInt), []int{-9, math.MinInt}},
	} {
		for _, pace := range c.paces {
			wantNone[[]impl.Runner](t, "WatchFrom")(impl.WatchFrom(c.list, pace))
		}
	}
}

func TestIsMoment(t *testing.T) {
	for _, m := range append(fractions(-1, 1, -5, 2, -1, 1000, -1000000, 1, -999999, 1000, -1000000, 999), goodTimes()...) {
		if !impl.IsMoment(m) {
			t.Error("IsMoment", m)
		}
	}
	for _, m := range noMoments() {
		if impl.IsMoment(m) {
			t.Error("IsMoment", m)
		}
	}
	for num := -30; num <= 30; num++ {
		for den := -2; den <= 30; den++ {
			want := den >= 1 && big.NewRat(int64(num), int64(max(den, 1))).Denom().Int64() == int64(den)
			if got := impl.IsMoment(moment(num, den)); got != want {
				t.Error("IsMoment", num, den, got)
			}
		}
	}
}
