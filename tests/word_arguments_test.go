package tests

import (
	"math"
	"strings"
	"testing"

	"loop.example/g01270/impl"
)

// wordArgs are all arguments that a function of chapter 7 may take.
type wordArgs struct {
	Word     string
	Steps    int
	Numbers  []int
	Lefts    int
	Rights   int
	Meetings int
	Rank     int
}

var wordCalls = []namedCall[wordArgs]{
	{"IsWord", func(a wordArgs) ([]any, bool) { return nil, impl.IsWord(a.Word) }},
	{"StepWord", func(a wordArgs) ([]any, bool) { x, ok := impl.StepWord(a.Word); return []any{x}, ok }},
	{"WordAfter", func(a wordArgs) ([]any, bool) { x, ok := impl.WordAfter(a.Word, a.Steps); return []any{x}, ok }},
	{"StepsToRest", func(a wordArgs) ([]any, bool) { x, ok := impl.StepsToRest(a.Word); return []any{x}, ok }},
	{"RestOf", func(a wordArgs) ([]any, bool) { x, ok := impl.RestOf(a.Word); return []any{x}, ok }},
	{"FacingPlaces", func(a wordArgs) ([]any, bool) { x, ok := impl.FacingPlaces(a.Word); return []any{x}, ok }},
	{"MeetingsOfWord", func(a wordArgs) ([]any, bool) { x, ok := impl.MeetingsOfWord(a.Word); return []any{x}, ok }},
	{"MeetingsBySteps", func(a wordArgs) ([]any, bool) { x, ok := impl.MeetingsBySteps(a.Word); return []any{x}, ok }},
	{"NumbersOfWord", func(a wordArgs) ([]any, bool) { x, ok := impl.NumbersOfWord(a.Word); return []any{x}, ok }},
	{"WordOfNumbers", func(a wordArgs) ([]any, bool) { x, ok := impl.WordOfNumbers(a.Numbers, a.Rights); return []any{x}, ok }},
	{"OtherSide", func(a wordArgs) ([]any, bool) { x, ok := impl.OtherSide(a.Word); return []any{x}, ok }},
	{"CountWords", func(a wordArgs) ([]any, bool) {
		x, ok := impl.CountWords(a.Lefts, a.Rights, a.Meetings)
		return []any{x}, ok
	}},
	{"AllWords", func(a wordArgs) ([]any, bool) { x, ok := impl.AllWords(a.Lefts, a.Rights); return []any{x}, ok }},
	{"RankOfWord", func(a wordArgs) ([]any, bool) { x, ok := impl.RankOfWord(a.Word); return []any{x}, ok }},
	{"WordOfRank", func(a wordArgs) ([]any, bool) {
		x, ok := impl.WordOfRank(a.Lefts, a.Rights, a.Rank)
		return []any{x}, ok
	}},
	{"WordsBefore", func(a wordArgs) ([]any, bool) { x, ok := impl.WordsBefore(a.Word); return []any{x}, ok }},
	{"SlowestWord", func(a wordArgs) ([]any, bool) { x, ok := impl.SlowestWord(a.Lefts, a.Rights); return []any{x}, ok }},
}

// The functions that require numbers of l and r.
var namesWithSigns = []string{"CountWords", "AllWords", "WordOfRank", "SlowestWord"}

// The functions that take a word.
var namesWithWords = namesBut(wordCalls, append(namesWithSigns, "WordOfNumbers")...)

// noWords returns texts with other signs, or with too many.
func noWords() []string {
	return []string{
		"x", "lx", "xl", "lxr", "rxl", "L", "R", "lR", "RL", " ", " l", "l ", "l r", "\n", "lr\n", "\x00", "l\x00", "\x00r", "é", "lé", "ér", "lér", "\xff", "r\xffl", "0", "01", "-1", "l,r", "r2l6",
		"rrrrrrrllllll ", "xrrrrrrllllllr", "rrrrrrxrllllll", "lrlrlrlrlrlrlrl", "rlrlrlrlrlrlrlr", strings.Repeat("l", 15), strings.Repeat("r", 15), strings.Repeat("rl", 14),
		strings.Repeat("l", 5000), strings.Repeat("r", 5000), strings.Repeat("rl", 5000), strings.Repeat("x", 5000), strings.Repeat("l", 5000) + "x",
	}
}

// numbersOff returns numbers that are not in 0..last.
func numbersOff(last int) []int {
	return []int{math.MinInt, math.MinInt + 1, -1000, -2, -1, last + 1, last + 2, 1000, math.MaxInt - 1, math.MaxInt}
}

// noNumbers returns numbers with so many r that no word has.
func noNumbers() []wordArgs {
	list := []wordArgs{
		{Numbers: []int{1, 0}, Rights: 2}, {Numbers: []int{2, 1}, Rights: 2}, {Numbers: []int{0, 2, 1}, Rights: 2}, {Numbers: []int{1, 0, 2}, Rights: 2}, {Numbers: []int{7, 6}, Rights: 7},
		{Numbers: []int{7, 7, 7, 7, 7, 7, 6}, Rights: 7}, {Numbers: []int{1, 0, 0, 0, 0, 0, 0}, Rights: 7}, {Numbers: []int{math.MaxInt, 0}, Rights: 7}, {Numbers: []int{0, math.MinInt}, Rights: 7},
		{Numbers: make([]int, 8), Rights: 7}, {Numbers: make([]int, 8)}, {Numbers: []int{0, 1, 2, 3, 4, 5, 6, 7}, Rights: 7}, {Numbers: make([]int, 14)}, {Numbers: make([]int, 5000), Rights: 7},
	}
	for _, rights := range []int{0, 1, 2, 6, 7} {
		for _, n := range numbersOff(rights) {
			list = append(list, wordArgs{Numbers: []int{n}, Rights: rights}, wordArgs{Numbers: []int{0, n}, Rights: rights}, wordArgs{Numbers: []int{n, rights}, Rights: rights})
		}
	}
	for _, rights := range numbersOff(7) {
		list = append(list, wordArgs{Rights: rights}, wordArgs{Numbers: []int{0}, Rights: rights}, wordArgs{Numbers: []int{0, 7}, Rights: rights}, wordArgs{Numbers: []int{rights}, Rights: rights})
	}
	return list
}

// manyWordArgs returns arguments that are valid, that are not, and both mixed.
func manyWordArgs() []wordArgs {
	list := noNumbers()
	for i, w := range append(noWords(), append(longWords(), "", "l", "r", "lr", "rl", "rrll", "lrrl", "rlrlrlrlrl", "lllllrrrrr", "rrrrrlllll", "lrlrlrlrlrl")...) {
		for _, steps := range []int{math.MinInt, -1, 0, 1, 20, 21, math.MaxInt} {
			list = append(list, wordArgs{Word: w, Steps: steps, Lefts: i%5 - 1, Rights: i%6 - 1, Meetings: i % 4, Rank: steps, Numbers: []int{i % 3, steps}})
		}
	}
	for _, lefts := range []int{math.MinInt, -1, 0, 2, 4, 5, 7, 8, math.MaxInt} {
		for _, rights := range []int{math.MinInt, -1, 0, 3, 4, 5, 7, 8, math.MaxInt} {
			for _, n := range []int{math.MinInt, -1, 0, 1, 49, 50, 3431, 3432, math.MaxInt} {
				list = append(list, wordArgs{Word: "rlrl", Lefts: lefts, Rights: rights, Meetings: n, Rank: n, Numbers: []int{0, 1, 1}})
			}
		}
	}
	return list
}

func TestWordsNeverPanicAndFailuresAreZero(t *testing.T) {
	checkFailuresAreZero(t, wordCalls, manyWordArgs())
}

func TestWordsKeepArguments(t *testing.T) {
	checkArgumentsAreKept(t, wordCalls, manyWordArgs())
}

func TestFunctionsThatRequireWords(t *testing.T) {
	var list []wordArgs
	for _, w := range noWords() {
		list = append(list, wordArgs{Word: w}, wordArgs{Word: w, Steps: 1})
	}
	checkFails(t, wordCalls, list, namesWithWords...)
	good := []wordArgs{{}, {Word: "l"}, {Word: "r"}, {Word: "rl"}, {Word: "rrll"}, {Word: "lllllll"}, {Word: "rrrrrrr"}, {Word: "rlrlrlrlrl"}, {Word: "rrrrrlllll"}}
	checkSucceeds(t, wordCalls, good, namesWithWords...)
	good = nil
	for _, w := range longWords() {
		good = append(good, wordArgs{Word: w, Steps: 20})
	}
	names := namesBut(wordCalls, append(namesWithSigns, "WordOfNumbers", "WordsBefore")...)
	checkSucceeds(t, wordCalls, good, names...)
}

func TestFunctionsThatRequireSteps(t *testing.T) {
	for _, w := range []string{"", "l", "rl", "rrll", "rrrrrrrlllllll"} {
		for _, steps := range numbersOff(20) {
			checkFails(t, wordCalls, []wordArgs{{Word: w, Steps: steps}}, "WordAfter")
		}
		for steps := range 21 {
			checkSucceeds(t, wordCalls, []wordArgs{{Word: w, Steps: steps}}, "WordAfter")
		}
	}
}

func TestFunctionsThatRequireNumbers(t *testing.T) {
	checkFails(t, wordCalls, noNumbers(), "WordOfNumbers")
	checkSucceeds(t, wordCalls, []wordArgs{{}, {Rights: 7}, {Numbers: make([]int, 7)}, {Numbers: make([]int, 7), Rights: 7}, {Numbers: []int{7}, Rights: 7}}, "WordOfNumbers")
}

func TestFunctionsThatRequireNumbersOfSigns(t *testing.T) {
	for _, n := range numbersOff(7) {
		list := []wordArgs{{Lefts: n}, {Rights: n}, {Lefts: n, Rights: n}, {Lefts: n, Rights: 7}, {Lefts: 7, Rights: n}, {Lefts: n, Rights: 2}, {Lefts: 2, Rights: n}}
		checkFails(t, wordCalls, list, namesWithSigns...)
	}
	for _, n := range numbersOff(4) {
		list := []wordArgs{{Lefts: n}, {Rights: n}, {Lefts: n, Rights: n}, {Lefts: n, Rights: 4}, {Lefts: 4, Rights: n}, {Lefts: n, Rights: 2}, {Lefts: 2, Rights: n}}
		checkFails(t, wordCalls, list, "AllWords")
	}
	good := []wordArgs{{}, {Lefts: 4}, {Rights: 4}, {Lefts: 4, Rights: 4}, {Lefts: 1, Rights: 3}}
	checkSucceeds(t, wordCalls, good, namesWithSigns...)
	good = []wordArgs{{Lefts: 7}, {Rights: 7}, {Lefts: 7, Rights: 7}, {Lefts: 5, Rights: 5}}
	checkSucceeds(t, wordCalls, good, "CountWords", "WordOfRank", "SlowestWord")
}

func TestFunctionsThatRequireMeetingsOfWords(t *testing.T) {
	for _, s := range []signs{{0, 0}, {2, 2}, {7, 0}, {0, 7}, {7, 7}} {
		for _, meetings := range numbersOff(49) {
			checkFails(t, wordCalls, []wordArgs{{Lefts: s.lefts, Rights: s.rights, Meetings: meetings}}, "CountWords")
		}
		for meetings := range 50 {
			checkSucceeds(t, wordCalls, []wordArgs{{Lefts: s.lefts, Rights: s.rights, Meetings: meetings}}, "CountWords")
		}
	}
}

// Only numbers of l and r that are arguments are at most 7: a word itself may have more of
// one sign.
func TestRanksTakeAllWords(t *testing.T) {
	for lefts := range impl.MaxWord + 1 {
		for rights := range impl.MaxWord + 1 - lefts {
			rest := strings.Repeat("l", lefts) + strings.Repeat("r", rights)
			last := strings.Repeat("r", rights) + strings.Repeat("l", lefts)
			checkSucceeds(t, wordCalls, []wordArgs{{Word: rest}, {Word: last}}, "RankOfWord")
		}
	}
}

func TestFunctionsThatRequireRanks(t *testing.T) {
	for s, count := range map[signs]int{{0, 0}: 1, {7, 0}: 1, {0, 7}: 1, {1, 1}: 2, {2, 2}: 6, {6, 7}: 1716, {7, 7}: 3432} {
		for _, rank := range []int{math.MinInt, math.MinInt + 1, -2, -1, count, count + 1, 3432, 5000, math.MaxInt - 1, math.MaxInt} {
			checkFails(t, wordCalls, []wordArgs{{Lefts: s.lefts, Rights: s.rights, Rank: rank}}, "WordOfRank")
		}
		checkSucceeds(t, wordCalls, []wordArgs{{Lefts: s.lefts, Rights: s.rights}, {Lefts: s.lefts, Rights: s.rights, Rank: count - 1}}, "WordOfRank")
	}
}

func TestWordsBeforeRequireFewSigns(t *testing.T) {
	for length := 11; length <= impl.MaxWord; length++ {
		for _, w := range []string{strings.Repeat("l", length), strings.Repeat("r", length), strings.Repeat("lr", 7)[:length], strings.Repeat("rl", 7)[:length]} {
			wantNone[[]string](t, "WordsBefore "+w)(impl.WordsBefore(w))
			checkSucceeds(t, wordCalls, []wordArgs{{Word: w[:10]}}, "WordsBefore")
			checkSucceeds(t, wordCalls, []wordArgs{{Word: w}}, "IsWord")
		}
	}
}
