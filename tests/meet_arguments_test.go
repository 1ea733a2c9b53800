package tests

import (
	"testing"

	"loop.example/g01270/impl"
)

// The functions of chapter 3 take arguments that those of chapter 1 take, too.
var meetCalls = []namedCall[rodArgs]{
	{"MeetingsOf", func(a rodArgs) ([]any, bool) { x, ok := impl.MeetingsOf(a.Rod); return []any{x}, ok }},
	{"MeetingsBy", func(a rodArgs) ([]any, bool) { x, ok := impl.MeetingsBy(a.Rod, a.Time); return []any{x}, ok }},
	{"FirstMeeting", func(a rodArgs) ([]any, bool) { x, ok := impl.FirstMeeting(a.Rod); return []any{x}, ok }},
	{"LastMeeting", func(a rodArgs) ([]any, bool) { x, ok := impl.LastMeeting(a.Rod); return []any{x}, ok }},
	{"MeetingsOfAnt", func(a rodArgs) ([]any, bool) { x, ok := impl.MeetingsOfAnt(a.Rod, a.Ant); return []any{x}, ok }},
	{"CountOfAnts", func(a rodArgs) ([]any, bool) { x, ok := impl.CountOfAnts(a.Rod); return []any{x}, ok }},
	{"CornersOf", func(a rodArgs) ([]any, bool) { x, ok := impl.CornersOf(a.Rod, a.Ant); return []any{x}, ok }},
	{"WayWalked", func(a rodArgs) ([]any, bool) { x, ok := impl.WayWalked(a.Rod, a.Ant); return []any{x}, ok }},
	{"NewsAfter", func(a rodArgs) ([]any, bool) { x, ok := impl.NewsAfter(a.Rod, a.Ant, a.Time); return []any{x}, ok }},
	{"NewsTimes", func(a rodArgs) ([]any, bool) { x, ok := impl.NewsTimes(a.Rod, a.Ant); return []any{x}, ok }},
	{"HearsAll", func(a rodArgs) ([]any, bool) { x, ok := impl.HearsAll(a.Rod); return []any{x}, ok }},
	{"NeverMeet", func(a rodArgs) ([]any, bool) { x, ok := impl.NeverMeet(a.Rod); return []any{x}, ok }},
	{"MeetAtOnce", func(a rodArgs) ([]any, bool) { x, ok := impl.MeetAtOnce(a.Rod); return []any{x}, ok }},
	{"PlacesOfMeetings", func(a rodArgs) ([]any, bool) { x, ok := impl.PlacesOfMeetings(a.Rod); return []any{x}, ok }},
}

func TestMeetingsNeverPanicAndFailuresAreZero(t *testing.T) {
	checkFailuresAreZero(t, meetCalls, manyRodArgs(t))
}

func TestMeetingsKeepArguments(t *testing.T) {
	list := manyRodArgs(t)
	for _, s := range []string{"20:r2r6l10l16", "20:r0l4r8l12r16l20", "20:r2l8r8l16"} {
		r := mustRod(t, s)
		for ant := range r.Ants {
			list = append(list, rodArgs{Rod: r, Ant: ant, Time: 4}, rodArgs{Rod: r, Ant: ant, Time: lastTime})
		}
	}
	checkArgumentsAreKept(t, meetCalls, list)
}

func TestMeetingsRequireRods(t *testing.T) {
	var list []rodArgs
	for _, r := range noRods() {
		list = append(list, rodArgs{Rod: r})
	}
	checkFails(t, meetCalls, list, namesBut(meetCalls)...)
	checkSucceeds(t, meetCalls, []rodArgs{{Rod: mustRod(t, "20:r2r6l10l16")}}, namesBut(meetCalls)...)
}

func TestMeetingsRequireTimes(t *testing.T) {
	r := mustRod(t, "20:r2r6l10l16")
	var list []rodArgs
	for _, time := range badTimes {
		list = append(list, rodArgs{Rod: r, Time: time})
	}
	names := []string{"MeetingsBy", "NewsAfter"}
	checkFails(t, meetCalls, list, names...)
	checkSucceeds(t, meetCalls, []rodArgs{{Rod: r, Time: 0}, {Rod: r, Time: 4}, {Rod: r, Time: lastTime}}, names...)
}

func TestMeetingsRequireAnts(t *testing.T) {
	r := mustRod(t, "20:r2r6l10l16")
	var list []rodArgs
	for _, ant := range badAnts(len(r.Ants)) {
		list = append(list, rodArgs{Rod: r, Ant: ant, Time: 2})
	}
	names := []string{"MeetingsOfAnt", "CornersOf", "WayWalked", "NewsAfter", "NewsTimes"}
	checkFails(t, meetCalls, list, names...)
	checkSucceeds(t, meetCalls, []rodArgs{{Rod: r, Ant: 0}, {Rod: r, Ant: 3}}, names...)
}
