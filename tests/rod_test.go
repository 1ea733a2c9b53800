package tests

import (
	"math"
	"regexp"
	"slices"
	"strconv"
	"strings"
	"testing"

	"loop.example/g01270/impl"
)

var badTimes = []int{math.MinInt, -2000, -2, -1, 1, 3, 1999, 2001, 2002, math.MaxInt - 1, math.MaxInt}

// badAnts returns numbers that are no ants of a rod with so many.
func badAnts(n int) []int { return []int{math.MinInt, -1, n, n + 1, impl.MaxAnts + 1, math.MaxInt} }

func TestExampleOfRods(t *testing.T) {
	r := mustRod(t, "10:r2l6r8")
	if after, ok := impl.RodAfter(r, 2); !ok || textOf(after) != "10:l4r4" {
		t.Error("RodAfter", after, ok)
	}
	if times, ok := impl.FallTimes(r); !ok || !slices.Equal(times, []int{6, 8, 2}) {
		t.Error("FallTimes", times, ok)
	}
	if n, ok := impl.CountMeetings(r); !ok || n != 1 {
		t.Error("CountMeetings", n, ok)
	}
	if ants, ok := impl.LastAnts(r); !ok || !slices.Equal(ants, []int{1}) {
		t.Error("LastAnts", ants, ok)
	}
	if places, ok := impl.GhostsAfter(r, 4); !ok || !slices.Equal(places, []int{2, 6}) {
		t.Error("GhostsAfter", places, ok)
	}
	if time, end, ok := impl.FallOf(r, 1); time != 8 || end != 10 || !ok {
		t.Error("FallOf", time, end, ok)
	}
}

func TestAntsAreWhereTheyWalk(t *testing.T) {
	for _, r := range manyRods() {
		w := walkOf(r)
		for time := 0; time <= lastTime; time += 2 {
			if time > r.Length+2 && time < lastTime {
				continue
			}
			want := impl.Rod{Length: r.Length, Ants: w.onRod(time)}
			if got, ok := impl.RodAfter(r, time); !ok || !sameRod(got, want) {
				t.Fatalf("RodAfter(%s, %d) = %s, %v, not %s", textOf(r), time, textOf(got), ok, textOf(want))
			}
			if got, ok := impl.OnRodAfter(r, time); !ok || got != len(want.Ants) {
				t.Fatalf("OnRodAfter(%s, %d) = %d, %v", textOf(r), time, got, ok)
			}
			checkEachAnt(t, r, time, w.states[time])
		}
	}
}

func checkEachAnt(t *testing.T, r impl.Rod, time int, list []walker) {
	t.Helper()
	for i, a := range list {
		place, way := a.at, a.way
		if a.fallen {
			place, way = 0, 0
		}
		if got, ok := impl.PlaceAfter(r, i, time); ok == a.fallen || got != place {
			t.Fatalf("PlaceAfter(%s, %d, %d) = %d, %v, not %+v", textOf(r), i, time, got, ok, a)
		}
		if got, ok := impl.WayAfter(r, i, time); ok == a.fallen || got != way {
			t.Fatalf("WayAfter(%s, %d, %d) = %d, %v, not %+v", textOf(r), i, time, got, ok, a)
		}
	}
}

func TestAntsAreWhereGhostsAre(t *testing.T) {
	for _, r := range manyRods() {
		for time := 0; time <= r.Length+2; time += 2 {
			want := ghostPlaces(r, time)
			if got, ok := impl.GhostsAfter(r, time); !ok || !slices.Equal(got, want) {
				t.Fatalf("GhostsAfter(%s, %d) = %v, %v, not %v", textOf(r), time, got, ok, want)
			}
			after, _ := impl.RodAfter(r, time)
			for i, a := range after.Ants {
				if a.At != want[i] {
					t.Fatalf("RodAfter(%s, %d) = %s, ghosts are at %v", textOf(r), time, textOf(after), want)
				}
			}
		}
	}
}

func TestRodGoesOnFromRodAfter(t *testing.T) {
	for _, r := range manyRods() {
		half := r.Length / 4 * 2
		first, ok := impl.RodAfter(r, half)
		second, fine := impl.RodAfter(first, 2)
		want, _ := impl.RodAfter(r, half+2)
		if !ok || !fine || !sameRod(second, want) {
			t.Fatalf("RodAfter(%s, %d) and 2 is %s, not %s", textOf(r), half, textOf(second), textOf(want))
		}
	}
}

func TestFallsAreThoseOfTheWalk(t *testing.T) {
	for _, r := range manyRods() {
		list := walkOf(r).atLast()
		var times []int
		last, left := 0, 0
		for i, a := range list {
			times = append(times, a.fallTime)
			last = max(last, a.fallTime)
			if a.at == 0 {
				left++
			}
			if time, end, ok := impl.FallOf(r, i); time != a.fallTime || end != a.at || !ok {
				t.Fatalf("FallOf(%s, %d) = %d, %d, %v, not %+v", textOf(r), i, time, end, ok, a)
			}
		}
		var ants []int
		for i, time := range times {
			if time == last {
				ants = append(ants, i)
			}
		}
		if got, ok := impl.FallTimes(r); !ok || !slices.Equal(got, times) {
			t.Fatalf("FallTimes(%s) = %v, %v, not %v", textOf(r), got, ok, times)
		}
		if got, ok := impl.LastFall(r); !ok || got != last {
			t.Fatalf("LastFall(%s) = %d, %v, not %d", textOf(r), got, ok, last)
		}
		if got, ok := impl.LastAnts(r); !ok || !slices.Equal(got, ants) {
			t.Fatalf("LastAnts(%s) = %v, %v, not %v", textOf(r), got, ok, ants)
		}
		if l, rights, ok := impl.CountFalls(r); !ok || l != left || rights != len(list)-left {
			t.Fatalf("CountFalls(%s) = %d, %d, %v, not %d", textOf(r), l, rights, ok, left)
		}
	}
}

func TestMeetingsAreThoseOfTheWalk(t *testing.T) {
	for _, r := range manyRods() {
		want := walkOf(r).meetings
		if got, ok := impl.CountMeetings(r); !ok || got != want {
			t.Fatalf("CountMeetings(%s) = %d, %v, not %d", textOf(r), got, ok, want)
		}
	}
	if n, _ := impl.CountMeetings(crowdedRod()); n != 64 {
		t.Error("CountMeetings of 8 and 8:", n)
	}
}

func TestAntsThatFallAtOnce(t *testing.T) {
	r := mustRod(t, "10:l0r0l10r10")
	if after, ok := impl.RodAfter(r, 0); !ok || textOf(after) != "10:r0l10" {
		t.Error("RodAfter", textOf(after), ok)
	}
	if times, ok := impl.FallTimes(r); !ok || !slices.Equal(times, []int{0, 10, 10, 0}) {
		t.Error("FallTimes", times, ok)
	}
	for _, ant := range []int{0, 3} {
		if at, ok := impl.PlaceAfter(r, ant, 0); at != 0 || ok {
			t.Error("PlaceAfter", ant, at, ok)
		}
		if way, ok := impl.WayAfter(r, ant, 0); way != 0 || ok {
			t.Error("WayAfter", ant, way, ok)
		}
	}
	if at, ok := impl.PlaceAfter(r, 1, 0); at != 0 || !ok {
		t.Error("PlaceAfter of the ant that stays", at, ok)
	}
	if time, end, ok := impl.FallOf(r, 0); time != 0 || end != 0 || !ok {
		t.Error("FallOf", time, end, ok)
	}
	both := mustRod(t, "2:l0r2")
	if last, ok := impl.LastFall(both); last != 0 || !ok {
		t.Error("LastFall", last, ok)
	}
	if ants, ok := impl.LastAnts(both); !ok || !slices.Equal(ants, []int{0, 1}) {
		t.Error("LastAnts", ants, ok)
	}
}

func TestRodWithNoAnts(t *testing.T) {
	for _, r := range []impl.Rod{{Length: 2}, {Length: 1000, Ants: []impl.Ant{}}} {
		if !impl.IsRod(r) {
			t.Error("IsRod", r)
		}
		for _, c := range rodCalls {
			for _, in := range []rodArgs{{Rod: r, Ant: 0, Time: 0}, {Rod: r, Ant: 0, Time: 2000}} {
				want := !slices.Contains([]string{"PlaceAfter", "WayAfter", "FallOf", "DropAnt", "ParseRod", "AddAnt"}, c.name)
				out, ok := c.call(in)
				if ok != want {
					t.Error(c.name, r, "is", out, ok)
				}
				for _, o := range out {
					switch x := o.(type) {
					case int:
						if x != 0 {
							t.Error(c.name, r, "is", x)
						}
					case []int:
						if len(x) != 0 {
							t.Error(c.name, r, "is", x)
						}
					case impl.Rod:
						if ok && !sameRod(x, r) {
							t.Error(c.name, r, "is", x)
						}
					}
				}
			}
		}
	}
}

func TestLimitsMetExactly(t *testing.T) {
	r := crowdedRod()
	if !impl.IsRod(r) {
		t.Fatal("IsRod of the greatest length and the most ants")
	}
	if after, ok := impl.RodAfter(r, 2000); !ok || textOf(after) != "1000:" {
		t.Error("RodAfter 2000", textOf(after), ok)
	}
	if after, ok := impl.RodAfter(r, 998); !ok || textOf(after) != "1000:l2r998" {
		t.Error("RodAfter 998", textOf(after), ok)
	}
	if _, ok := impl.AddAnt(r, antAt(500, 1)); ok {
		t.Error("AddAnt has 17 ants")
	}
	less, _ := impl.DropAnt(r, 15)
	if more, ok := impl.AddAnt(less, r.Ants[15]); !ok || !sameRod(more, r) {
		t.Error("AddAnt of the last ant", textOf(more), ok)
	}
	one := mustRod(t, "1000:r0")
	if time, end, ok := impl.FallOf(one, 0); time != 1000 || end != 1000 || !ok {
		t.Error("FallOf", time, end, ok)
	}
	if at, ok := impl.PlaceAfter(one, 0, 998); at != 998 || !ok {
		t.Error("PlaceAfter 998", at, ok)
	}
	if at, ok := impl.PlaceAfter(one, 0, 1000); at != 0 || ok {
		t.Error("PlaceAfter 1000", at, ok)
	}
}

// isRodByPlaces says the same as IsRod from the lists of ways at each place.
func isRodByPlaces(r impl.Rod) bool {
	if r.Length < 2 || r.Length > 1000 || r.Length&1 == 1 || len(r.Ants) > 16 {
		return false
	}
	ways := map[int]string{}
	for _, a := range r.Ants {
		if a.At < 0 || a.At > r.Length || a.At&1 == 1 || a.Way*a.Way != 1 {
			return false
		}
		ways[a.At] += string("l.r"[a.Way+1])
	}
	for _, w := range ways {
		if w != "l" && w != "r" && w != "lr" {
			return false
		}
	}
	return slices.IsSortedFunc(r.Ants, func(a, b impl.Ant) int { return a.At - b.At })
}

// eachFewAnts runs a check with small lengths and lists of up to three ants, valid or not.
func eachFewAnts(check func(length int, list ...impl.Ant)) {
	var ants []impl.Ant
	for at := -2; at <= 6; at++ {
		for way := -2; way <= 2; way++ {
			ants = append(ants, antAt(at, way))
		}
	}
	for length := -2; length <= 6; length++ {
		check(length)
		for _, a := range ants {
			check(length, a)
			for _, b := range ants {
				check(length, a, b)
				check(length, antAt(2, -1), a, b)
				check(length, a, antAt(2, 1), b)
			}
		}
	}
}

func TestIsRodOfAnyNumbers(t *testing.T) {
	eachFewAnts(func(length int, list ...impl.Ant) {
		r := impl.Rod{Length: length, Ants: list}
		if got, want := impl.IsRod(r), isRodByPlaces(r); got != want {
			t.Fatalf("IsRod(%v) = %v", r, got)
		}
	})
}

func TestIsRodOfGreatNumbers(t *testing.T) {
	for length, want := range map[int]bool{998: true, 999: false, 1000: true, 1001: false, 1002: false, math.MaxInt: false, math.MinInt: false, -1000: false} {
		if impl.IsRod(impl.Rod{Length: length}) != want {
			t.Error("IsRod of the length", length)
		}
	}
	for _, a := range antsOf(math.MaxInt, 1, math.MinInt, -1, 1002, -1, 2, math.MaxInt, 2, math.MinInt, 2, 0) {
		if impl.IsRod(impl.Rod{Length: 1000, Ants: []impl.Ant{a}}) {
			t.Error("IsRod of the ant", a)
		}
	}
	many := crowdedRod()
	many.Ants = slices.Insert(many.Ants, 8, antAt(500, 1))
	if impl.IsRod(many) {
		t.Error("IsRod of 17 ants")
	}
}

func TestMirrorRod(t *testing.T) {
	for _, r := range manyRods() {
		want := impl.Rod{Length: r.Length}
		for i := len(r.Ants) - 1; i >= 0; i-- {
			want.Ants = append(want.Ants, antAt(r.Length-r.Ants[i].At, -r.Ants[i].Way))
		}
		got, ok := impl.MirrorRod(r)
		if !ok || !sameRod(got, want) || !impl.IsRod(got) {
			t.Fatalf("MirrorRod(%s) = %s, %v", textOf(r), textOf(got), ok)
		}
		times, _ := impl.FallTimes(r)
		mirrored, _ := impl.FallTimes(got)
		slices.Reverse(mirrored)
		if !slices.Equal(times, mirrored) {
			t.Fatalf("FallTimes(%s) are %v, those of its mirror %v", textOf(r), times, mirrored)
		}
	}
	if got, _ := impl.MirrorRod(mustRod(t, "10:l0r2l4r4")); textOf(got) != "10:l6r6l8r10" {
		t.Error("MirrorRod", textOf(got))
	}
}

func TestTurnWays(t *testing.T) {
	for _, r := range manyRods() {
		got, ok := impl.TurnWays(r)
		if !ok || !impl.IsRod(got) || got.Length != r.Length || len(got.Ants) != len(r.Ants) {
			t.Fatalf("TurnWays(%s) = %s, %v", textOf(r), textOf(got), ok)
		}
		for i, a := range r.Ants {
			two := i > 0 && r.Ants[i-1].At == a.At || i+1 < len(r.Ants) && r.Ants[i+1].At == a.At
			if b := got.Ants[i]; b.At != a.At || (b.Way == a.Way) != two {
				t.Fatalf("TurnWays(%s) = %s", textOf(r), textOf(got))
			}
		}
	}
	if got, _ := impl.TurnWays(mustRod(t, "10:r0l4r4l6")); textOf(got) != "10:l0l4r4r6" {
		t.Error("TurnWays", textOf(got))
	}
}

func TestAddAnt(t *testing.T) {
	for _, r := range manyRods() {
		for _, at := range []int{-2, -1, 0, 1, 2, 4, 6, 8, 20, 1000, 1002} {
			for way := -2; way <= 2; way++ {
				checkAdded(t, r, antAt(at, way))
			}
		}
	}
	r := mustRod(t, "10:r2l6")
	for text, a := range map[string]impl.Ant{"10:l0r2l6": antAt(0, -1), "10:l2r2l6": antAt(2, -1), "10:r2r4l6": antAt(4, 1), "10:r2l6r6": antAt(6, 1), "10:r2l6r10": antAt(10, 1)} {
		if got, ok := impl.AddAnt(r, a); !ok || textOf(got) != text {
			t.Error("AddAnt", a, textOf(got), ok)
		}
	}
	for _, a := range antsOf(2, 1, 6, -1, 3, 1, 12, 1, -2, 1, 4, 0, math.MinInt, 1, math.MaxInt, -1, 4, math.MaxInt, 4, math.MinInt) {
		if got, ok := impl.AddAnt(r, a); ok || !sameRod(got, impl.Rod{}) {
			t.Error("AddAnt", a, got, ok)
		}
	}
	two := mustRod(t, "10:l4r4")
	for _, way := range []int{-1, 1} {
		if got, ok := impl.AddAnt(two, antAt(4, way)); ok {
			t.Error("AddAnt of a third one in one place", got)
		}
	}
}

// checkAdded puts an ant at each index and looks whether one of them makes a rod.
func checkAdded(t *testing.T, r impl.Rod, a impl.Ant) {
	t.Helper()
	want, fine := impl.Rod{}, false
	for i := range len(r.Ants) + 1 {
		more := impl.Rod{Length: r.Length, Ants: slices.Insert(slices.Clone(r.Ants), i, a)}
		if impl.IsRod(more) {
			want, fine = more, true
		}
	}
	if got, ok := impl.AddAnt(r, a); ok != fine || !sameRod(got, want) {
		t.Fatalf("AddAnt(%s, %v) = %v, %v, not %v", textOf(r), a, got, ok, want)
	}
}

func TestDropAnt(t *testing.T) {
	for _, r := range manyRods() {
		for i := range r.Ants {
			want := impl.Rod{Length: r.Length, Ants: slices.Delete(slices.Clone(r.Ants), i, i+1)}
			if got, ok := impl.DropAnt(r, i); !ok || !sameRod(got, want) {
				t.Fatalf("DropAnt(%s, %d) = %s, %v", textOf(r), i, textOf(got), ok)
			}
		}
	}
}

func TestRodTextAndParseRod(t *testing.T) {
	for _, r := range manyRods() {
		s, ok := impl.RodText(r)
		if !ok || s != textOf(r) {
			t.Fatalf("RodText(%s) = %s, %v", textOf(r), s, ok)
		}
		if got, fine := impl.ParseRod(s); !fine || !sameRod(got, r) {
			t.Fatalf("ParseRod(%s) = %s, %v", s, textOf(got), fine)
		}
	}
}

func TestTextsThatAreNoRodText(t *testing.T) {
	texts := []string{
		"", ":", "10", "10r2", "r2", ":r2", "10::", "10:r2:", "10:r2:l4", "10;r2", "10@r2",
		"0:", "1:", "3:", "9:", "-2:", "-10:", "1001:", "1002:", "2000:", "+10:", "010:", "00:", "1e1:", "0x2:", "1_0:", " 10:", "10 :",
		"10:r", "10:l", "10:2", "10:x2", "10:R2", "10:L2", "10:rl2", "10:lr", "10:r2l", "10:2r", "10:r2x", "10:x", "10:r2x4",
		"10:r02", "10:r00", "10:r-2", "10:r-0", "10:r+2", "10:r 2", "10: r2", "10:r2 ", "10:r2 l4", "10:r2,l4", "10:r2\n", "\n10:r2", "10:r2\x00", "\x0010:r2",
		"10:r1", "10:r3", "10:r11", "10:l12", "10:l4l2", "10:r4r2", "10:r4l4", "10:l4l4", "10:r4r4", "10:l4r4r4", "10:l4r4l4", "10:l4l4r4",
		"10:r18446744073709551618", "18446744073709551626:r2", "10:r9223372036854775808", "9223372036854775808:", "-9223372036854775808:",
		"10:r2٢", "10:ｒ2", "10:r²", "10:\xff2", "10:r\xff", "１０:r2", "10：r2",
		"1000:" + strings.Repeat("r2", 17), "1000:" + strings.Repeat("l4r4", 100000), strings.Repeat("1", 100000) + ":", "10:r" + strings.Repeat("0", 100000), "10:" + strings.Repeat("r", 100000), strings.Repeat(":", 100000),
	}
	many := crowdedRod()
	many.Ants = slices.Insert(many.Ants, 8, antAt(500, 1))
	texts = append(texts, textOf(many))
	for _, s := range texts {
		if r, ok := impl.ParseRod(s); ok || !sameRod(r, impl.Rod{}) {
			t.Errorf("ParseRod(%.60q) = %v, %v", s, r, ok)
		}
	}
	for _, s := range []string{"2:", "1000:", "10:l0", "10:r0", "10:l0r0", "10:l10r10", "10:r10", "1000:l1000"} {
		if r, ok := impl.ParseRod(s); !ok || textOf(r) != s {
			t.Errorf("ParseRod(%q) = %v, %v", s, r, ok)
		}
	}
}

var rodTextForm = regexp.MustCompile(`^(0|[1-9][0-9]{0,3}):((?:[lr](?:0|[1-9][0-9]{0,3}))*)$`)

// isRodTextByForm says the same as ParseRod from the form of a text and its numbers.
func isRodTextByForm(s string) bool {
	parts := rodTextForm.FindStringSubmatch(s)
	if parts == nil {
		return false
	}
	r := impl.Rod{}
	r.Length, _ = strconv.Atoi(parts[1])
	for _, word := range regexp.MustCompile(`.[0-9]+`).FindAllString(parts[2], -1) {
		at, _ := strconv.Atoi(word[1:])
		r.Ants = append(r.Ants, antAt(at, strings.Index("l.r", word[:1])-1))
	}
	return isRodByPlaces(r)
}

// eachShortText runs a check with all texts of at most 5 of some signs.
func eachShortText(signs string, check func(s string)) {
	list := []string{""}
	for range 6 {
		var longer []string
		for _, s := range list {
			check(s)
			for _, sign := range signs {
				longer = append(longer, s+string(sign))
			}
		}
		list = longer
	}
}

// withOneSignChanged returns the texts that come from one if a sign is replaced, put in or taken out.
func withOneSignChanged(s string, signs string) []string {
	var texts []string
	for i := range s {
		texts = append(texts, s[:i]+s[i+1:])
		for _, sign := range signs {
			texts = append(texts, s[:i]+string(sign)+s[i+1:], s[:i]+string(sign)+s[i:], s+string(sign))
		}
	}
	return texts
}

func TestEveryShortText(t *testing.T) {
	eachShortText("0123468:lr-+ x", func(s string) {
		if _, ok := impl.ParseRod(s); ok != isRodTextByForm(s) {
			t.Fatalf("ParseRod(%q): %v", s, ok)
		}
	})
}

func TestTextsWithOneSignChanged(t *testing.T) {
	for _, s := range []string{"10:r2l6r8", "1000:l4r4l500r1000", "2:l0r0l2r2"} {
		for _, changed := range withOneSignChanged(s, "0123456789:lr-+ x") {
			r, ok := impl.ParseRod(changed)
			if ok != isRodTextByForm(changed) || ok && textOf(r) != changed {
				t.Fatalf("ParseRod(%q) = %v, %v", changed, r, ok)
			}
		}
	}
}
