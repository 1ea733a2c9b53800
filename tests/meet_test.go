package tests

import (
	"runtime"
	"slices"
	"testing"

	"loop.example/g01270/impl"
)

// meetingsOf returns meetings whose times, places and ants are told in turn.
func meetingsOf(numbers ...int) []impl.Meeting {
	var list []impl.Meeting
	for m := range slices.Chunk(numbers, 3) {
		list = append(list, impl.Meeting{Time: m[0], Place: m[1], Left: m[2]})
	}
	return list
}

// wantList looks that a call succeeds with a list.
func wantList[T comparable](t *testing.T, name string, want []T) func(got []T, ok bool) {
	t.Helper()
	return func(got []T, ok bool) {
		t.Helper()
		if !ok || !slices.Equal(got, want) {
			t.Errorf("%s: %v, %v, not %v", name, got, ok, want)
		}
	}
}

// wantOne looks that a call succeeds with a value.
func wantOne[T comparable](t *testing.T, name string, want T) func(got T, ok bool) {
	t.Helper()
	return func(got T, ok bool) {
		t.Helper()
		if !ok || got != want {
			t.Errorf("%s: %v, %v, not %v", name, got, ok, want)
		}
	}
}

// wantCorners looks that a call succeeds with corners.
func wantCorners(t *testing.T, name string, want ...[]int) func(got [][]int, ok bool) {
	t.Helper()
	return func(got [][]int, ok bool) {
		t.Helper()
		if !ok || !slices.EqualFunc(got, want, slices.Equal[[]int]) {
			t.Errorf("%s: %v, %v, not %v", name, got, ok, want)
		}
	}
}

func TestExampleOfMeetings(t *testing.T) {
	r := mustRod(t, "20:r2r6l10l16")
	all := meetingsOf(2, 8, 1, 4, 6, 0, 5, 11, 2, 7, 9, 1)
	wantList(t, "MeetingsOf", all)(impl.MeetingsOf(r))
	wantOne(t, "FirstMeeting", all[0])(impl.FirstMeeting(r))
	wantOne(t, "LastMeeting", all[3])(impl.LastMeeting(r))
	wantOne(t, "MeetingsBy 4", 2)(impl.MeetingsBy(r, 4))
	wantList(t, "MeetingsOfAnt 1", meetingsOf(2, 8, 1, 4, 6, 0, 7, 9, 1))(impl.MeetingsOfAnt(r, 1))
	wantList(t, "CountOfAnts", []int{1, 3, 3, 1})(impl.CountOfAnts(r))
	wantCorners(t, "CornersOf 0", []int{0, 2}, []int{4, 6}, []int{10, 0})(impl.CornersOf(r, 0))
	wantOne(t, "WayWalked 0", 10)(impl.WayWalked(r, 0))
	wantList(t, "NewsTimes 0", []int{0, 4, 7, -1})(impl.NewsTimes(r, 0))
	wantList(t, "NewsAfter 0, 6", []int{0, 1})(impl.NewsAfter(r, 0, 6))
	wantList(t, "HearsAll", []int{1, 2})(impl.HearsAll(r))
	wantList(t, "NeverMeet", []int{})(impl.NeverMeet(r))
	wantOne(t, "MeetAtOnce", 1)(impl.MeetAtOnce(r))
	wantList(t, "PlacesOfMeetings", []int{6, 8, 9, 11})(impl.PlacesOfMeetings(r))
}

func TestMeetingsAreSeenOnTheWalk(t *testing.T) {
	eachMetWalk(t, func(r impl.Rod, w metWalk) {
		wantList(t, "MeetingsOf", w.meetings)(impl.MeetingsOf(r))
		wantOne(t, "CountMeetings", len(w.meetings))(impl.CountMeetings(r))
		if len(w.meetings) > 0 {
			wantOne(t, "FirstMeeting", w.meetings[0])(impl.FirstMeeting(r))
			wantOne(t, "LastMeeting", w.meetings[len(w.meetings)-1])(impl.LastMeeting(r))
		}
		by := 0
		atOnce := map[int]int{}
		var places []int
		for _, m := range w.meetings {
			atOnce[m.Time]++
			places = append(places, m.Place)
		}
		slices.Sort(places)
		wantList(t, "PlacesOfMeetings", slices.Compact(places))(impl.PlacesOfMeetings(r))
		most := 0
		for time := range lastTime + 1 {
			by += atOnce[time]
			most = max(most, atOnce[time])
			if time%2 == 0 && (time <= r.Length || time == lastTime) {
				wantOne(t, "MeetingsBy", by)(impl.MeetingsBy(r, time))
			}
		}
		wantOne(t, "MeetAtOnce", most)(impl.MeetAtOnce(r))
	})
}

func TestAntsMeetAsTheyWalk(t *testing.T) {
	eachMetWalk(t, func(r impl.Rod, w metWalk) {
		var counts, alone []int
		for ant, a := range w.atLast() {
			list := w.ofAnt(ant)
			counts = append(counts, len(list))
			if len(list) == 0 {
				alone = append(alone, ant)
			}
			wantList(t, "MeetingsOfAnt", list)(impl.MeetingsOfAnt(r, ant))
			wantOne(t, "WayWalked", a.fallTime)(impl.WayWalked(r, ant))
			corners := [][]int{{0, r.Ants[ant].At}}
			for _, m := range list {
				corners = append(corners, []int{m.Time, m.Place})
			}
			if a.fallTime > 0 {
				corners = append(corners, []int{a.fallTime, a.at})
			}
			wantCorners(t, "CornersOf", corners...)(impl.CornersOf(r, ant))
		}
		wantList(t, "CountOfAnts", counts)(impl.CountOfAnts(r))
		wantList(t, "NeverMeet", alone)(impl.NeverMeet(r))
	})
}

// A way between two corners is as long as it lasts, and all of them together are the way walked.
func TestCornersAreTheWholeWay(t *testing.T) {
	eachMetWalk(t, func(r impl.Rod, w metWalk) {
		for ant := range r.Ants {
			corners, ok := impl.CornersOf(r, ant)
			if !ok || len(corners) == 0 {
				t.Fatal("CornersOf", ant, corners, ok)
			}
			walked := 0
			for i := 1; i < len(corners); i++ {
				far := corners[i][1] - corners[i-1][1]
				if lasts := corners[i][0] - corners[i-1][0]; max(far, -far) != lasts || lasts <= 0 {
					t.Error("CornersOf", ant, corners)
				}
				walked += max(far, -far)
			}
			wantOne(t, "WayWalked", walked)(impl.WayWalked(r, ant))
		}
	})
}

func TestNewsGoesAsAntsWalk(t *testing.T) {
	eachMetWalk(t, func(r impl.Rod, w metWalk) {
		for ant := range r.Ants {
			times := w.newsTimes(ant)
			wantList(t, "NewsTimes", times)(impl.NewsTimes(r, ant))
			// Only at these times, and just ahead of them, a list may be another one.
			looks := []int{0, r.Length, lastTime}
			for _, time := range times {
				looks = append(looks, max(0, time/2*2), max(0, time/2*2-2), max(0, time/2*2+2))
			}
			for _, time := range looks {
				wantList(t, "NewsAfter", knowing(times, time))(impl.NewsAfter(r, ant, time))
			}
		}
	})
}

func TestWhoHearsAll(t *testing.T) {
	eachMetWalk(t, func(r impl.Rod, w metWalk) {
		known := w.known()
		var hears []int
		for ant := range r.Ants {
			if !slices.ContainsFunc(known, func(to []bool) bool { return !to[ant] }) {
				hears = append(hears, ant)
			}
		}
		wantList(t, "HearsAll", hears)(impl.HearsAll(r))
	})
}

// Whoever knows news knows it ever after, and comes to know it only at a meeting with one that did.
func TestNewsIsPassedAtMeetingsAndNeverForgotten(t *testing.T) {
	rods := slices.Concat(smallRods(6), thrownRods(60), []impl.Rod{busyRod(), crowdedRod(), mustRod(t, "20:r2r6l10l16")})
	for _, r := range rods {
		meetings, _ := impl.MeetingsOf(r)
		for ant := range r.Ants {
			known, ok := impl.NewsAfter(r, ant, 0)
			if !ok || !slices.Equal(known, []int{ant}) {
				t.Fatalf("NewsAfter(%s, %d, 0) = %v, %v", textOf(r), ant, known, ok)
			}
			for time := 2; time <= min(r.Length+2, lastTime); time += 2 {
				next, fine := impl.NewsAfter(r, ant, time)
				if want := passedOn(meetings, known, time-2, time); !fine || !slices.Equal(next, want) {
					t.Fatalf("NewsAfter(%s, %d, %d) = %v, %v, not %v", textOf(r), ant, time, next, fine, want)
				}
				known = next
			}
			wantList(t, "NewsAfter at last", known)(impl.NewsAfter(r, ant, lastTime))
		}
	}
}

// passedOn returns who knows what some do when those that meet behind a time and up to another one have told each other.
func passedOn(meetings []impl.Meeting, known []int, from int, to int) []int {
	for _, m := range meetings {
		if m.Time <= from || m.Time > to {
			continue
		}
		if slices.Contains(known, m.Left) || slices.Contains(known, m.Left+1) {
			known = append(slices.Clone(known), m.Left, m.Left+1)
			slices.Sort(known)
			known = slices.Compact(known)
		}
	}
	return known
}

func TestMeetingsWithNoAnts(t *testing.T) {
	for _, r := range []impl.Rod{{Length: 2}, {Length: 1000, Ants: []impl.Ant{}}} {
		in := []rodArgs{{Rod: r}, {Rod: r, Time: lastTime}}
		fails := []string{"FirstMeeting", "LastMeeting", "MeetingsOfAnt", "CornersOf", "WayWalked", "NewsAfter", "NewsTimes"}
		checkFails(t, meetCalls, in, fails...)
		names := namesBut(meetCalls, fails...)
		checkSucceeds(t, meetCalls, in, names...)
		for _, c := range chosen(t, meetCalls, names...) {
			if out, _ := c.call(in[1]); !allZero(out) {
				t.Error(c.name, "of no ants is", out)
			}
		}
	}
}

func TestMeetingsOfOneAnt(t *testing.T) {
	for s, want := range map[string][]int{"10:r4": {6, 10}, "10:l4": {4, 0}, "1000:r0": {1000, 1000}, "1000:l1000": {1000, 0}, "2:r0": {2, 2}} {
		r := mustRod(t, s)
		wantList(t, "MeetingsOf", meetingsOf())(impl.MeetingsOf(r))
		wantList(t, "MeetingsOfAnt", meetingsOf())(impl.MeetingsOfAnt(r, 0))
		wantList(t, "CountOfAnts", []int{0})(impl.CountOfAnts(r))
		wantCorners(t, "CornersOf", []int{0, r.Ants[0].At}, want)(impl.CornersOf(r, 0))
		wantOne(t, "WayWalked", want[0])(impl.WayWalked(r, 0))
		wantList(t, "NewsAfter", []int{0})(impl.NewsAfter(r, 0, lastTime))
		wantList(t, "NewsTimes", []int{0})(impl.NewsTimes(r, 0))
		wantList(t, "HearsAll", []int{0})(impl.HearsAll(r))
		wantList(t, "NeverMeet", []int{0})(impl.NeverMeet(r))
		wantOne(t, "MeetAtOnce", 0)(impl.MeetAtOnce(r))
		wantOne(t, "MeetingsBy", 0)(impl.MeetingsBy(r, lastTime))
		wantList(t, "PlacesOfMeetings", []int{})(impl.PlacesOfMeetings(r))
		checkFails(t, meetCalls, []rodArgs{{Rod: r}}, "FirstMeeting", "LastMeeting")
	}
}

func TestRodsWithoutMeetings(t *testing.T) {
	for _, s := range []string{"10:", "10:r4", "10:r2r4r6", "10:l2l4l6", "10:l0l2r8r10", "10:l4r4", "10:l0r0", "10:l10r10", "1000:l500r500"} {
		r := mustRod(t, s)
		checkFails(t, meetCalls, []rodArgs{{Rod: r}}, "FirstMeeting", "LastMeeting")
		wantList(t, s, meetingsOf())(impl.MeetingsOf(r))
		wantOne(t, s, 0)(impl.MeetAtOnce(r))
	}
}

func TestAntThatMeetsNobody(t *testing.T) {
	r := mustRod(t, "20:l2r4l8r12")
	wantList(t, "NeverMeet", []int{0, 3})(impl.NeverMeet(r))
	wantList(t, "MeetingsOfAnt", meetingsOf())(impl.MeetingsOfAnt(r, 0))
	wantList(t, "CountOfAnts", []int{0, 1, 1, 0})(impl.CountOfAnts(r))
	wantCorners(t, "CornersOf", []int{0, 12}, []int{8, 20})(impl.CornersOf(r, 3))
	wantList(t, "NewsTimes", []int{-1, -1, -1, 0})(impl.NewsTimes(r, 3))
	wantList(t, "NewsTimes", []int{-1, 0, 2, -1})(impl.NewsTimes(r, 1))
	wantList(t, "NewsAfter", []int{3})(impl.NewsAfter(r, 3, lastTime))
	wantList(t, "HearsAll", []int{})(impl.HearsAll(r))
}

func TestTwoThatHaveJustMetAtFirst(t *testing.T) {
	r := mustRod(t, "10:l4r4")
	wantList(t, "MeetingsOf", meetingsOf())(impl.MeetingsOf(r))
	wantOne(t, "MeetingsBy", 0)(impl.MeetingsBy(r, 0))
	wantList(t, "NewsTimes", []int{0, -1})(impl.NewsTimes(r, 0))
	wantList(t, "NewsTimes", []int{-1, 0})(impl.NewsTimes(r, 1))
	wantList(t, "NeverMeet", []int{0, 1})(impl.NeverMeet(r))
	wantCorners(t, "CornersOf", []int{0, 4}, []int{4, 0})(impl.CornersOf(r, 0))
	wantCorners(t, "CornersOf", []int{0, 4}, []int{6, 10})(impl.CornersOf(r, 1))

	// Others that have turned them make no difference to what they knew at first.
	r = mustRod(t, "20:r2l8r8l16")
	wantList(t, "MeetingsOf", meetingsOf(3, 5, 0, 4, 12, 2, 7, 9, 1))(impl.MeetingsOf(r))
	wantList(t, "NewsTimes", []int{-1, 7, 0, 4})(impl.NewsTimes(r, 2))
}

func TestMeetingsOfAntsThatFallAtOnce(t *testing.T) {
	r := mustRod(t, "10:l0r0l10r10")
	wantList(t, "MeetingsOf", meetingsOf(5, 5, 1))(impl.MeetingsOf(r))
	wantCorners(t, "CornersOf", []int{0, 0})(impl.CornersOf(r, 0))
	wantCorners(t, "CornersOf", []int{0, 0}, []int{5, 5}, []int{10, 0})(impl.CornersOf(r, 1))
	wantCorners(t, "CornersOf", []int{0, 10}, []int{5, 5}, []int{10, 10})(impl.CornersOf(r, 2))
	wantCorners(t, "CornersOf", []int{0, 10})(impl.CornersOf(r, 3))
	for _, ant := range []int{0, 3} {
		wantOne(t, "WayWalked", 0)(impl.WayWalked(r, ant))
		wantList(t, "NewsAfter", []int{ant})(impl.NewsAfter(r, ant, 0))
		wantList(t, "NewsAfter", []int{ant})(impl.NewsAfter(r, ant, lastTime))
	}
	wantList(t, "NeverMeet", []int{0, 3})(impl.NeverMeet(r))
	wantList(t, "HearsAll", []int{})(impl.HearsAll(r))
}

func TestOddTimesAndPlaces(t *testing.T) {
	r := mustRod(t, "10:r2l4r6l8")
	all := meetingsOf(1, 3, 0, 1, 7, 2, 3, 5, 1)
	wantList(t, "MeetingsOf", all)(impl.MeetingsOf(r))
	wantOne(t, "MeetAtOnce", 2)(impl.MeetAtOnce(r))
	for time, want := range map[int]int{0: 0, 2: 2, 4: 3, lastTime: 3} {
		wantOne(t, "MeetingsBy", want)(impl.MeetingsBy(r, time))
	}
	wantList(t, "PlacesOfMeetings", []int{3, 5, 7})(impl.PlacesOfMeetings(r))
	// Both are at the time 1: at 0 nobody else knows, and at 2 everybody that is told does.
	for time, want := range map[int][]int{0: {1}, 2: {0, 1}, 4: {0, 1, 2}} {
		wantList(t, "NewsAfter", want)(impl.NewsAfter(r, 1, time))
	}
}

func TestSeveralMeetingsAtOneTime(t *testing.T) {
	// All meetings of the same time are ordered by their places.
	r := mustRod(t, "20:r0l4r8l12r16l20")
	wantList(t, "MeetingsOf", meetingsOf(2, 2, 0, 2, 10, 2, 2, 18, 4, 6, 6, 1, 6, 14, 3, 10, 10, 2))(impl.MeetingsOf(r))
	wantOne(t, "MeetAtOnce", 3)(impl.MeetAtOnce(r))
	wantOne(t, "LastMeeting", meetingsOf(10, 10, 2)[0])(impl.LastMeeting(r))
	wantList(t, "PlacesOfMeetings", []int{2, 6, 10, 14, 18})(impl.PlacesOfMeetings(r))
	wantList(t, "MeetingsOfAnt", meetingsOf(2, 10, 2, 6, 6, 1, 10, 10, 2))(impl.MeetingsOfAnt(r, 2))
	wantList(t, "HearsAll", []int{2, 3})(impl.HearsAll(r))
	wantOne(t, "MeetAtOnce of the busy rod", 8)(impl.MeetAtOnce(busyRod()))

	wantOne(t, "FirstMeeting", meetingsOf(2, 2, 0)[0])(impl.FirstMeeting(r))

	// One that falls at once is counted among the ants all the same.
	apart := mustRod(t, "40:l0r2l6r30l34")
	later, _ := impl.DropAnt(apart, 0)
	wantList(t, "MeetingsOf", meetingsOf(2, 4, 1, 2, 32, 3, 16, 18, 2))(impl.MeetingsOf(apart))
	wantList(t, "MeetingsOf", meetingsOf(2, 4, 0, 2, 32, 2, 16, 18, 1))(impl.MeetingsOf(later))
}

func TestNewsAtTheTimeOfAMeetingAndAheadOfIt(t *testing.T) {
	r := mustRod(t, "20:r2r6l10l16")
	for _, c := range []struct {
		ant, time int
		want      []int
	}{
		{0, 0, []int{0}}, {0, 2, []int{0}}, {0, 4, []int{0, 1}}, {0, 6, []int{0, 1}}, {0, 8, []int{0, 1, 2}}, {0, 2000, []int{0, 1, 2}},
		{1, 0, []int{1}}, {1, 2, []int{1, 2}}, {1, 4, []int{0, 1, 2}}, {1, 6, []int{0, 1, 2, 3}}, {1, 2000, []int{0, 1, 2, 3}},
		{3, 4, []int{3}}, {3, 6, []int{2, 3}}, {3, 8, []int{1, 2, 3}}, {3, 10, []int{1, 2, 3}},
	} {
		wantList(t, "NewsAfter", c.want)(impl.NewsAfter(r, c.ant, c.time))
	}
	wantList(t, "NewsTimes 1", []int{4, 0, 2, 5})(impl.NewsTimes(r, 1))
	wantList(t, "NewsTimes 2", []int{4, 2, 0, 5})(impl.NewsTimes(r, 2))
	wantList(t, "NewsTimes 3", []int{-1, 7, 5, 0})(impl.NewsTimes(r, 3))
	for time, want := range map[int]int{0: 0, 2: 1, 4: 2, 6: 3, 8: 4, 2000: 4} {
		wantOne(t, "MeetingsBy", want)(impl.MeetingsBy(r, time))
	}
}

func TestLimitsOfMeetingsMetExactly(t *testing.T) {
	r := crowdedRod()
	list, ok := impl.MeetingsOf(r)
	if !ok || len(list) != 64 {
		t.Fatal("MeetingsOf", list, ok)
	}
	wantOne(t, "FirstMeeting", meetingsOf(486, 500, 7)[0])(impl.FirstMeeting(r))
	wantOne(t, "LastMeeting", meetingsOf(500, 500, 7)[0])(impl.LastMeeting(r))
	wantOne(t, "MeetingsBy 0", 0)(impl.MeetingsBy(r, 0))
	wantOne(t, "MeetingsBy 2000", 64)(impl.MeetingsBy(r, 2000))
	wantOne(t, "MeetAtOnce", 8)(impl.MeetAtOnce(r))
	wantList(t, "CountOfAnts", []int{1, 3, 5, 7, 9, 11, 13, 15, 15, 13, 11, 9, 7, 5, 3, 1})(impl.CountOfAnts(r))
	wantList(t, "HearsAll", []int{7, 8})(impl.HearsAll(r))
	wantList(t, "NewsAfter 0", []int{15})(impl.NewsAfter(r, 15, 0))
	wantList(t, "NewsAfter 2000", []int{7, 8, 9, 10, 11, 12, 13, 14, 15})(impl.NewsAfter(r, 15, 2000))
	ends := mustRod(t, "1000:r0l1000")
	wantList(t, "MeetingsOf", meetingsOf(500, 500, 0))(impl.MeetingsOf(ends))
	wantCorners(t, "CornersOf", []int{0, 0}, []int{500, 500}, []int{1000, 0})(impl.CornersOf(ends, 0))
	wantOne(t, "WayWalked", 1000)(impl.WayWalked(ends, 1))
	wantList(t, "HearsAll", []int{0, 1})(impl.HearsAll(ends))
}

// No call leaves behind anybody that still sends news.
func TestNewsIsStopped(t *testing.T) {
	before := runtime.NumGoroutine()
	for range 200 {
		for ant := range impl.MaxAnts {
			for _, until := range []int{0, 486, 490, lastTime} {
				impl.NewsAfter(crowdedRod(), ant, until)
			}
		}
	}
	waitForGoroutines(t, before)
}
