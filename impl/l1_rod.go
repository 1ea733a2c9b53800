package impl

import (
	"cmp"
	"slices"
	"strconv"
	"strings"
)

const MaxLength = 1000
const MaxAnts = 16

const toLeft = -1
const toRight = 1

type Ant struct {
	At  int
	Way int
}

type Rod struct {
	Length int
	Ants   []Ant
}

// A ghost walks on a rod of a length as its ant does at first, but passes through the others.
type ghost struct {
	Ant
	length int
}

func (g ghost) goesLeft() bool { return g.Way == toLeft }

func (g ghost) goesRight() bool { return g.Way == toRight }

// end returns where the ghost falls.
func (g ghost) end() int {
	if g.goesLeft() {
		return 0
	}
	return g.length
}

func (g ghost) fallTime() int {
	if g.goesLeft() {
		return g.At
	}
	return g.length - g.At
}

func (g ghost) hasFallen(time int) bool { return g.fallTime() <= time }

func (g ghost) after(time int) Ant { return Ant{At: g.At + g.Way*time, Way: g.Way} }

// IsRod reports whether r, whose numbers may be any, is a rod.
func IsRod(r Rod) bool {
	if r.Length < 2 || r.Length > MaxLength || r.Length%2 != 0 || len(r.Ants) > MaxAnts {
		return false
	}
	for i, a := range r.Ants {
		if !isAnt(a, r.Length) || i > 0 && !mayFollow(r.Ants[i-1], a) {
			return false
		}
	}
	return true
}

// isAnt reports whether a is an ant at an even place of 0..last.
func isAnt(a Ant, last int) bool {
	return a.At >= 0 && a.At <= last && a.At%2 == 0 && (a.Way == toLeft || a.Way == toRight)
}

// mayFollow reports whether b may be the ant that comes directly after a.
func mayFollow(a, b Ant) bool { return a.At < b.At || haveJustMet(a, b) }

func haveJustMet(a, b Ant) bool {
	return a == Ant{At: b.At, Way: toLeft} && b == Ant{At: a.At, Way: toRight}
}

// compareAnts puts the one that goes to the left first in one place, as two that meet there turn.
func compareAnts(a, b Ant) int {
	return cmp.Or(cmp.Compare(a.At, b.At), cmp.Compare(a.Way, b.Way))
}

func hasAnt(r Rod, ant int) bool { return ant >= 0 && ant < len(r.Ants) }

func isRodTime(time int) bool { return time >= 0 && time <= 2*MaxLength && time%2 == 0 }

func ghostsOf(r Rod) []ghost {
	list := make([]ghost, 0, len(r.Ants))
	for _, a := range r.Ants {
		list = append(list, ghost{Ant: a, length: r.Length})
	}
	return list
}

func ghostsThat(r Rod, does func(ghost) bool) []ghost {
	var list []ghost
	for _, g := range ghostsOf(r) {
		if does(g) {
			list = append(list, g)
		}
	}
	return list
}

// ghostsThatFallAs returns for each ant the ghost that falls when and where it does.
// As ants keep their order, the first ones fall at the left, one for each ghost that
// goes there, and the others at the right. At both ends the ghosts fall by their places:
// those at the left from the first one on, those at the right from the last one on.
func ghostsThatFallAs(r Rod) []ghost {
	return slices.Concat(ghostsThat(r, ghost.goesLeft), ghostsThat(r, ghost.goesRight))
}

// numbersOf returns what is measured of each ghost.
func numbersOf(list []ghost, measure func(ghost) int) []int {
	numbers := make([]int, 0, len(list))
	for _, g := range list {
		numbers = append(numbers, measure(g))
	}
	return numbers
}

// antsAfter returns the ants that are on the rod behind a time.
func antsAfter(r Rod, time int) []Ant {
	var list []Ant
	for _, g := range ghostsOf(r) {
		if !g.hasFallen(time) {
			list = append(list, g.after(time))
		}
	}
	slices.SortFunc(list, compareAnts)
	return list
}

// antAfter returns an ant as it is behind a time. It fails if it has fallen.
func antAfter(r Rod, ant int, time int) (Ant, bool) {
	if !IsRod(r) || !hasAnt(r, ant) || !isRodTime(time) {
		return Ant{}, false
	}
	list := ghostsThatFallAs(r)
	if list[ant].hasFallen(time) {
		return Ant{}, false
	}
	before := 0
	for _, g := range list[:ant] {
		if !g.hasFallen(time) {
			before++
		}
	}
	return antsAfter(r, time)[before], true
}

// RodAfter returns the rod with the ants that are on it behind a time, two that meet just then having turned.
func RodAfter(r Rod, time int) (Rod, bool) {
	if !IsRod(r) || !isRodTime(time) {
		return Rod{}, false
	}
	return Rod{Length: r.Length, Ants: antsAfter(r, time)}, true
}

// PlaceAfter returns where an ant is behind a time. It fails if it has fallen.
func PlaceAfter(r Rod, ant int, time int) (int, bool) {
	a, ok := antAfter(r, ant, time)
	return a.At, ok
}

// WayAfter returns its way then. It fails if it has fallen.
func WayAfter(r Rod, ant int, time int) (int, bool) {
	a, ok := antAfter(r, ant, time)
	return a.Way, ok
}

// GhostsAfter returns the places of all ghosts that are on the rod behind a time, increasing or staying the same.
func GhostsAfter(r Rod, time int) ([]int, bool) {
	if !IsRod(r) || !isRodTime(time) {
		return nil, false
	}
	var places []int
	for _, g := range ghostsOf(r) {
		if !g.hasFallen(time) {
			places = append(places, g.after(time).At)
		}
	}
	slices.Sort(places)
	return places, true
}

// FallTimes returns the times at which the ants fall, in the order of ants.
func FallTimes(r Rod) ([]int, bool) {
	if !IsRod(r) {
		return nil, false
	}
	return numbersOf(ghostsThatFallAs(r), ghost.fallTime), true
}

// FallOf returns the time at which an ant falls, and the end, 0 or Length.
func FallOf(r Rod, ant int) (int, int, bool) {
	if !IsRod(r) || !hasAnt(r, ant) {
		return 0, 0, false
	}
	g := ghostsThatFallAs(r)[ant]
	return g.fallTime(), g.end(), true
}

// LastFall returns the time at which the last ants fall: 0 if there are no ants.
func LastFall(r Rod) (int, bool) {
	times, ok := FallTimes(r)
	last := 0
	for _, t := range times {
		last = max(last, t)
	}
	return last, ok
}

// LastAnts returns all ants that fall then, increasing.
func LastAnts(r Rod) ([]int, bool) {
	times, ok := FallTimes(r)
	last, _ := LastFall(r)
	var ants []int
	for i, t := range times {
		if t == last {
			ants = append(ants, i)
		}
	}
	return ants, ok
}

// CountFalls returns how many ants fall off at the left, and at the right: as many as go there at first.
func CountFalls(r Rod) (int, int, bool) {
	if !IsRod(r) {
		return 0, 0, false
	}
	return len(ghostsThat(r, ghost.goesLeft)), len(ghostsThat(r, ghost.goesRight)), true
}

// CountMeetings returns how many meetings there are: as many as pairs of ants of which the first goes to the right and the second to the left at first.
func CountMeetings(r Rod) (int, bool) {
	if !IsRod(r) {
		return 0, false
	}
	meetings, rights := 0, 0
	for _, g := range ghostsOf(r) {
		if g.goesRight() {
			rights++
		} else {
			meetings += rights
		}
	}
	return meetings, true
}

// OnRodAfter returns how many ants are on the rod behind a time.
func OnRodAfter(r Rod, time int) (int, bool) {
	places, ok := GhostsAfter(r, time)
	return len(places), ok
}

// MirrorRod returns the rod from the other side.
func MirrorRod(r Rod) (Rod, bool) {
	if !IsRod(r) {
		return Rod{}, false
	}
	list := make([]Ant, 0, len(r.Ants))
	for _, a := range r.Ants {
		list = append(list, Ant{At: r.Length - a.At, Way: -a.Way})
	}
	slices.Reverse(list)
	return Rod{Length: r.Length, Ants: list}, true
}

// TurnWays returns the rod with all ants turned: two in one place stay as they are.
func TurnWays(r Rod) (Rod, bool) {
	if !IsRod(r) {
		return Rod{}, false
	}
	list := make([]Ant, 0, len(r.Ants))
	for _, a := range r.Ants {
		list = append(list, Ant{At: a.At, Way: -a.Way})
	}
	slices.SortFunc(list, compareAnts)
	return Rod{Length: r.Length, Ants: list}, true
}

// AddAnt returns the rod with an ant more, in its order. It fails if that is no rod.
func AddAnt(r Rod, a Ant) (Rod, bool) {
	if !IsRod(r) {
		return Rod{}, false
	}
	list := slices.Concat(r.Ants, []Ant{a})
	slices.SortFunc(list, compareAnts)
	more := Rod{Length: r.Length, Ants: list}
	if !IsRod(more) {
		return Rod{}, false
	}
	return more, true
}

// DropAnt returns the rod without an ant.
func DropAnt(r Rod, ant int) (Rod, bool) {
	if !IsRod(r) || !hasAnt(r, ant) {
		return Rod{}, false
	}
	return Rod{Length: r.Length, Ants: slices.Concat(r.Ants[:ant], r.Ants[ant+1:])}, true
}

// RodText returns Length, :, and for each ant l or r for its way and its place.
func RodText(r Rod) (string, bool) {
	if !IsRod(r) {
		return "", false
	}
	return strconv.Itoa(r.Length) + ":" + antsText(r.Ants), true
}

func antsText(list []Ant) string {
	s := ""
	for _, a := range list {
		letter := "r"
		if a.Way == toLeft {
			letter = "l"
		}
		s += letter + strconv.Itoa(a.At)
	}
	return s
}

// ParseRod returns the rod with a RodText. It fails if there is none.
func ParseRod(s string) (Rod, bool) {
	head, tail, _ := strings.Cut(s, ":")
	length, err := strconv.Atoi(head)
	ants, ok := parseAnts(tail)
	if err != nil || !ok {
		return Rod{}, false
	}
	r := Rod{Length: length, Ants: ants}
	// A number can be written in several ways, of which RodText has only one.
	if text, fine := RodText(r); !fine || text != s {
		return Rod{}, false
	}
	return r, true
}

// parseAnts returns the ants of a text, at most MaxAnts, whose places may be any.
func parseAnts(s string) ([]Ant, bool) {
	var list []Ant
	for s != "" {
		way, known := wayOfLetter(s[0])
		number, rest := s[1:], ""
		if i := strings.IndexAny(number, "lr"); i >= 0 {
			number, rest = number[:i], number[i:]
		}
		at, err := strconv.Atoi(number)
		if !known || err != nil || len(list) == MaxAnts {
			return nil, false
		}
		list = append(list, Ant{At: at, Way: way})
		s = rest
	}
	return list, true
}

func wayOfLetter(letter byte) (int, bool) {
	switch letter {
	case 'l':
		return toLeft, true
	case 'r':
		return toRight, true
	}
	return 0, false
}
