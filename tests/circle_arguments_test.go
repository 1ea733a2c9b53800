package tests

import (
	"math"
	"testing"

	"loop.example/g01270/impl"
)

// circleArgs are all arguments that a function of chapter 2 may take.
type circleArgs struct {
	Circle impl.Circle
	Ant    int
	Time   int
	By     int
	Text   string
}

var circleCalls = []namedCall[circleArgs]{
	{"IsCircle", func(a circleArgs) ([]any, bool) { return nil, impl.IsCircle(a.Circle) }},
	{"CircleAfter", func(a circleArgs) ([]any, bool) { x, ok := impl.CircleAfter(a.Circle, a.Time); return []any{x}, ok }},
	{"AntsAround", func(a circleArgs) ([]any, bool) { x, ok := impl.AntsAround(a.Circle, a.Time); return []any{x}, ok }},
	{"WayAround", func(a circleArgs) ([]any, bool) {
		x, ok := impl.WayAround(a.Circle, a.Ant, a.Time)
		return []any{x}, ok
	}},
	{"MeetingsAround", func(a circleArgs) ([]any, bool) { x, ok := impl.MeetingsAround(a.Circle, a.Time); return []any{x}, ok }},
	{"MeetingsInRound", func(a circleArgs) ([]any, bool) { x, ok := impl.MeetingsInRound(a.Circle); return []any{x}, ok }},
	{"ShiftInRound", func(a circleArgs) ([]any, bool) { x, ok := impl.ShiftInRound(a.Circle); return []any{x}, ok }},
	{"LooksSameAfter", func(a circleArgs) ([]any, bool) { x, ok := impl.LooksSameAfter(a.Circle); return []any{x}, ok }},
	{"ComesBackAfter", func(a circleArgs) ([]any, bool) { x, ok := impl.ComesBackAfter(a.Circle); return []any{x}, ok }},
	{"GapsAround", func(a circleArgs) ([]any, bool) { x, ok := impl.GapsAround(a.Circle); return []any{x}, ok }},
	{"MirrorCircle", func(a circleArgs) ([]any, bool) { x, ok := impl.MirrorCircle(a.Circle); return []any{x}, ok }},
	{"SpinCircle", func(a circleArgs) ([]any, bool) { x, ok := impl.SpinCircle(a.Circle, a.By); return []any{x}, ok }},
	{"BackCircle", func(a circleArgs) ([]any, bool) { x, ok := impl.BackCircle(a.Circle); return []any{x}, ok }},
	{"NextMeeting", func(a circleArgs) ([]any, bool) { x, ok := impl.NextMeeting(a.Circle); return []any{x}, ok }},
	{"CircleText", func(a circleArgs) ([]any, bool) { x, ok := impl.CircleText(a.Circle); return []any{x}, ok }},
	{"ParseCircle", func(a circleArgs) ([]any, bool) { x, ok := impl.ParseCircle(a.Text); return []any{x}, ok }},
}

var badRounds = []int{math.MinInt, -impl.MaxRounds, -2, -1, 1, 3, impl.MaxRounds - 1, impl.MaxRounds + 1, impl.MaxRounds + 2, math.MaxInt - 1, math.MaxInt}

// noCircles returns circles that are none: whatever is no rod, and rods that are too long or have an ant at the end.
func noCircles() []impl.Circle {
	var circles []impl.Circle
	for _, r := range noRods() {
		circles = append(circles, impl.Circle(r))
	}
	many := fullCircle()
	many.Ants = append(many.Ants, antAt(398, 1))
	circles = append(circles, many)
	for _, length := range []int{401, 402, 404, 800, 1000} {
		circles = append(circles, impl.Circle{Length: length}, impl.Circle{Length: length, Ants: antsOf(0, 1)})
	}
	for _, length := range []int{2, 10, impl.MaxAround} {
		for _, list := range [][]impl.Ant{antsOf(length, -1), antsOf(length, 1), antsOf(0, 1, length, -1), antsOf(length, -1, length, 1)} {
			circles = append(circles, impl.Circle{Length: length, Ants: list})
		}
	}
	return circles
}

func manyCircleArgs(t *testing.T) []circleArgs {
	circles := append(noCircles(), fullCircle())
	for _, s := range []string{"2@", "2@l0", "2@l0r0", "10@r0l4r6", "10@l2r8", "10@l4r4", "400@r0l398", "400@l0l2l4"} {
		circles = append(circles, mustCircle(t, s))
	}
	var list []circleArgs
	for _, c := range circles {
		for _, ant := range append(badAnts(len(c.Ants)), 0, 1, 15) {
			for _, time := range append(badRounds, 0, 2, c.Length, impl.MaxRounds) {
				list = append(list, circleArgs{c, ant, time, time, "10@l0r0r6"})
			}
		}
		for _, by := range append(badSpins(c.Length), 0, 2, c.Length-2) {
			list = append(list, circleArgs{Circle: c, By: by, Text: "10@r1"})
		}
	}
	return list
}

func TestCirclesNeverPanicAndFailuresAreZero(t *testing.T) {
	checkFailuresAreZero(t, circleCalls, manyCircleArgs(t))
}

func TestCirclesKeepArguments(t *testing.T) {
	checkArgumentsAreKept(t, circleCalls, manyCircleArgs(t))
}

func TestFunctionsThatRequireCircles(t *testing.T) {
	var list []circleArgs
	for _, c := range noCircles() {
		list = append(list, circleArgs{Circle: c})
	}
	checkFails(t, circleCalls, list, namesBut(circleCalls, "ParseCircle")...)
}

func TestFunctionsThatRequireTimesAround(t *testing.T) {
	c := mustCircle(t, "10@r0l4r6")
	var list []circleArgs
	for _, time := range badRounds {
		list = append(list, circleArgs{Circle: c, Time: time})
	}
	names := []string{"CircleAfter", "AntsAround", "WayAround", "MeetingsAround"}
	checkFails(t, circleCalls, list, names...)
	checkSucceeds(t, circleCalls, []circleArgs{{Circle: c, Time: 0}, {Circle: c, Time: impl.MaxRounds}}, names...)
}

func TestFunctionsThatRequireAntsAround(t *testing.T) {
	c := mustCircle(t, "10@r0l4r6")
	var list []circleArgs
	for _, ant := range badAnts(len(c.Ants)) {
		list = append(list, circleArgs{Circle: c, Ant: ant, Time: 2})
	}
	checkFails(t, circleCalls, list, "WayAround")
	checkSucceeds(t, circleCalls, []circleArgs{{Circle: c, Ant: 0}, {Circle: c, Ant: 2}}, "WayAround")
}
