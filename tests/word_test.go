package tests

import (
	"slices"
	"strings"
	"testing"

	"loop.example/g01270/impl"
)

func TestExampleOfWords(t *testing.T) {
	wantOne(t, "StepWord", "rlrl")(impl.StepWord("rrll"))
	wantOne(t, "WordAfter 2", "lrlr")(impl.WordAfter("rrll", 2))
	wantOne(t, "WordAfter 3", "llrr")(impl.WordAfter("rrll", 3))
	wantOne(t, "RestOf", "llrr")(impl.RestOf("rrll"))
	wantOne(t, "StepsToRest", 3)(impl.StepsToRest("rrll"))
	wantList(t, "MeetingsBySteps", []int{1, 2, 1})(impl.MeetingsBySteps("rrll"))
	wantOne(t, "MeetingsOfWord", 4)(impl.MeetingsOfWord("rrll"))
	wantList(t, "NumbersOfWord", []int{2, 2})(impl.NumbersOfWord("rrll"))
	wantOne(t, "WordOfNumbers", "rrll")(impl.WordOfNumbers([]int{2, 2}, 2))
	wantOne(t, "CountWords", 2)(impl.CountWords(2, 2, 2))
	for _, w := range []string{"lrrl", "rllr"} {
		wantOne(t, "MeetingsOfWord", 2)(impl.MeetingsOfWord(w))
	}
	wantOne(t, "RankOfWord", 2)(impl.RankOfWord("lrrl"))
	wantOne(t, "WordOfRank", "lrrl")(impl.WordOfRank(2, 2, 2))
	wantList(t, "AllWords", []string{"llrr", "lrlr", "lrrl", "rllr", "rlrl", "rrll"})(impl.AllWords(2, 2))
	wantList(t, "WordsBefore", []string{"lr", "rl"})(impl.WordsBefore("lr"))
	wantOne(t, "SlowestWord", "rrll")(impl.SlowestWord(2, 2))
}

func TestWordsStepAsAntsTurn(t *testing.T) {
	eachWord(t, func(w string, walk wordWalk) {
		wantOne(t, "StepWord", walk.after(1))(impl.StepWord(w))
		for steps := range 21 {
			wantOne(t, "WordAfter", walk.after(steps))(impl.WordAfter(w, steps))
		}
		wantOne(t, "StepsToRest", len(walk.places))(impl.StepsToRest(w))
		wantOne(t, "RestOf", walk.words[len(walk.words)-1])(impl.RestOf(w))
		wantList(t, "MeetingsBySteps", walk.counts())(impl.MeetingsBySteps(w))
		if walk.places == nil {
			wantList(t, "FacingPlaces", []int{})(impl.FacingPlaces(w))
		} else {
			wantList(t, "FacingPlaces", walk.places[0])(impl.FacingPlaces(w))
		}
	})
}

func TestWordsRestAfterAsManyMeetingsAsPairsFace(t *testing.T) {
	eachWord(t, func(w string, walk wordWalk) {
		wantOne(t, "MeetingsOfWord", facingPairs(w))(impl.MeetingsOfWord(w))
		wantOne(t, "MeetingsOfWord", sumOf(walk.counts()))(impl.MeetingsOfWord(w))
		counts, _ := impl.MeetingsBySteps(w)
		wantOne(t, "MeetingsOfWord", sumOf(counts))(impl.MeetingsOfWord(w))
		rest, _ := impl.RestOf(w)
		wantOne(t, "StepWord of the rest", rest)(impl.StepWord(rest))
		wantOne(t, "MeetingsOfWord of the rest", 0)(impl.MeetingsOfWord(rest))
		wantOne(t, "StepsToRest of the rest", 0)(impl.StepsToRest(rest))
		if steps, ok := impl.StepsToRest(w); !ok || steps > max(0, len(w)-1) {
			t.Error("StepsToRest", steps, ok)
		}
	})
}

func TestNumbersAreThoseOfRights(t *testing.T) {
	eachWord(t, func(w string, _ wordWalk) {
		numbers, s := rightsBefore(w), signsOf(w)
		wantList(t, "NumbersOfWord", numbers)(impl.NumbersOfWord(w))
		if s.lefts <= 7 && s.rights <= 7 {
			wantOne(t, "WordOfNumbers", w)(impl.WordOfNumbers(numbers, s.rights))
		} else {
			wantNone[string](t, "WordOfNumbers")(impl.WordOfNumbers(numbers, s.rights))
		}
	})
}

func TestWordsOfAnyFewNumbers(t *testing.T) {
	lists := [][]int{nil}
	for range 4 {
		for _, list := range lists {
			for rights := -1; rights <= 5; rights++ {
				fits := rights >= 0 && slices.IsSorted(list) && (len(list) == 0 || list[0] >= 0 && list[len(list)-1] <= rights)
				w, ok := impl.WordOfNumbers(list, rights)
				if ok != fits || fits && (signsOf(w) != signs{len(list), rights} || !slices.Equal(rightsBefore(w), list)) || !fits && w != "" {
					t.Errorf("WordOfNumbers(%v, %d) is %q, %v", list, rights, w, ok)
				}
			}
		}
		var longer [][]int
		for _, list := range lists {
			for n := -1; n <= 5; n++ {
				longer = append(longer, append(slices.Clone(list), n))
			}
		}
		lists = longer
	}
}

func TestNumbersAtTheirLimits(t *testing.T) {
	for _, c := range []struct {
		numbers []int
		rights  int
		word    string
	}{
		{nil, 0, ""}, {[]int{}, 0, ""}, {nil, 7, "rrrrrrr"}, {[]int{0}, 0, "l"}, {[]int{0, 0, 0, 0, 0, 0, 0}, 0, "lllllll"},
		{[]int{7, 7, 7, 7, 7, 7, 7}, 7, "rrrrrrrlllllll"}, {[]int{0, 0, 0, 0, 0, 0, 0}, 7, "lllllllrrrrrrr"}, {[]int{1, 2, 3, 4, 5, 6, 7}, 7, "rlrlrlrlrlrlrl"},
		{[]int{0, 1, 2, 3, 4, 5, 6}, 7, "lrlrlrlrlrlrlr"}, {[]int{0, 7}, 7, "lrrrrrrrl"}, {[]int{3}, 7, "rrrlrrrr"},
	} {
		wantOne(t, "WordOfNumbers", c.word)(impl.WordOfNumbers(c.numbers, c.rights))
		wantList(t, "NumbersOfWord", c.numbers)(impl.NumbersOfWord(c.word))
	}
}

func TestWordsFromTheOtherSide(t *testing.T) {
	for w, other := range map[string]string{
		"": "", "l": "r", "r": "l", "lr": "lr", "rl": "rl", "ll": "rr", "rrl": "rll", "lrr": "llr", "rrll": "rrll", "lrrl": "rllr", "rrlrl": "rlrll", "rrrrrrrrrrrrrr": "llllllllllllll",
	} {
		wantOne(t, "OtherSide", other)(impl.OtherSide(w))
	}
	eachWord(t, func(w string, walk wordWalk) {
		turn := func(w string) string {
			list := []byte(w)
			for i := range list {
				list[i] ^= 'l' ^ 'r'
			}
			slices.Reverse(list)
			return string(list)
		}
		other := turn(w)
		wantOne(t, "OtherSide", other)(impl.OtherSide(w))
		wantOne(t, "OtherSide of it", w)(impl.OtherSide(other))
		// From there the same ants meet in the same steps.
		wantOne(t, "StepWord", turn(walk.after(1)))(impl.StepWord(other))
		wantList(t, "MeetingsBySteps", walk.counts())(impl.MeetingsBySteps(other))
	})
}

func TestWordsWithMeetingsAreCounted(t *testing.T) {
	for s, words := range wordsBySigns(7) {
		counts := make([]int, 50)
		for _, w := range words {
			counts[facingPairs(w)]++
		}
		for meetings, want := range counts {
			wantOne(t, "CountWords", want)(impl.CountWords(s.lefts, s.rights, meetings))
		}
		if t.Failed() {
			t.Fatalf("%+v", s)
		}
	}
	wantOne(t, "CountWords of the empty word", 1)(impl.CountWords(0, 0, 0))
	wantOne(t, "CountWords of the empty word", 0)(impl.CountWords(0, 0, 49))
	wantOne(t, "CountWords of 7 and 7 at rest", 1)(impl.CountWords(7, 7, 0))
	wantOne(t, "CountWords of 7 and 7 with most meetings", 1)(impl.CountWords(7, 7, 49))
	wantOne(t, "CountWords of 7 and 6 with too many", 0)(impl.CountWords(7, 6, 43))
	wantOne(t, "CountWords of no l", 1)(impl.CountWords(0, 7, 0))
	wantOne(t, "CountWords of no r", 0)(impl.CountWords(7, 0, 1))
}

func TestAllWordsAreListedInOrder(t *testing.T) {
	sorted := wordsBySigns(impl.MaxListed)
	for lefts := range impl.MaxListed + 1 {
		for rights := range impl.MaxListed + 1 {
			wantList(t, "AllWords", sorted[signs{lefts, rights}])(impl.AllWords(lefts, rights))
		}
	}
	wantList(t, "AllWords of none", []string{""})(impl.AllWords(0, 0))
	wantList(t, "AllWords of 4 and 0", []string{"llll"})(impl.AllWords(4, 0))
	wantList(t, "AllWords of 0 and 3", []string{"rrr"})(impl.AllWords(0, 3))
	if list, ok := impl.AllWords(4, 4); !ok || len(list) != 70 {
		t.Error("AllWords of 4 and 4", len(list), ok)
	}
}

func TestRanksCountWordsBefore(t *testing.T) {
	for s, words := range wordsBySigns(impl.MaxWord) {
		few := s.lefts <= 7 && s.rights <= 7
		for rank, w := range words {
			// Of the words with the most signs some are enough.
			if len(words) > 300 && rank > 20 && rank < len(words)-20 && rank%37 != 0 {
				continue
			}
			wantOne(t, "RankOfWord", rank)(impl.RankOfWord(w))
			if few {
				wantOne(t, "WordOfRank", w)(impl.WordOfRank(s.lefts, s.rights, rank))
			} else {
				wantNone[string](t, "WordOfRank")(impl.WordOfRank(s.lefts, s.rights, rank))
			}
		}
		for _, rank := range []int{-1, len(words), len(words) + 1} {
			wantNone[string](t, "WordOfRank")(impl.WordOfRank(s.lefts, s.rights, rank))
		}
		if t.Failed() {
			t.Fatalf("%+v", s)
		}
	}
	wantOne(t, "the first rank", "lllllllrrrrrrr")(impl.WordOfRank(7, 7, 0))
	wantOne(t, "the last rank", "rrrrrrrlllllll")(impl.WordOfRank(7, 7, 3431))
	wantOne(t, "the last rank", 3431)(impl.RankOfWord("rrrrrrrlllllll"))
	wantOne(t, "the empty word", 0)(impl.RankOfWord(""))
	wantOne(t, "the empty word", "")(impl.WordOfRank(0, 0, 0))
}

func TestRanksOfWordsWithManyOfASign(t *testing.T) {
	for w, rank := range map[string]int{
		"llllllll": 0, "rrrrrrrr": 0, "lrrrrrrrr": 0, "rrrrrrrrl": 8, "rllllllll": 8, "llrllllll": 6, "rlrrrrrrrr": 1, "rrlrrrrrrr": 2,
		"llllllllrrrrrr": 0, "rrrrrrrrllllll": 3002, "rrrrrrllllllll": 3002, "rrrrrrrrrrrrrl": 13, "rlllllllllllll": 13, "llllllllllllll": 0, "rrrrrrrrrrrrrr": 0,
	} {
		wantOne(t, "RankOfWord "+w, rank)(impl.RankOfWord(w))
	}
	for _, w := range []string{strings.Repeat("l", 15), strings.Repeat("r", 15), "rrrrrrrrlllllll", "llllllllx"} {
		wantNone[int](t, "RankOfWord "+w)(impl.RankOfWord(w))
	}
}

func TestWordsBeforeAreThoseThatStepThere(t *testing.T) {
	for length := range 11 {
		before := map[string][]string{}
		words := wordsOfLength(length)
		for _, w := range words {
			after := walkOfWord(w).after(1)
			before[after] = append(before[after], w)
		}
		for _, w := range words {
			wantList(t, "WordsBefore "+w, before[w])(impl.WordsBefore(w))
		}
	}
}

func TestWordsBeforeByHand(t *testing.T) {
	for w, want := range map[string][]string{
		"": {""}, "l": {"l"}, "r": {"r"}, "rl": nil, "rrll": nil, "rlrl": {"rrll"}, "lrlr": {"lrrl", "rllr", "rlrl"}, "llrr": {"llrr", "lrlr"}, "rrlr": {"rrrl"},
		"llllllllll": {"llllllllll"}, "rrrrrrrrrr": {"rrrrrrrrrr"}, "lllllrrrrr": {"lllllrrrrr", "llllrlrrrr"}, "rrrrrlllll": nil,
		"rlrlrlrlrl": {"rrllrrlrll", "rrlrllrrll", "rrlrlrlrll"},
	} {
		wantList(t, "WordsBefore "+w, want)(impl.WordsBefore(w))
	}
}

func TestSlowestWordsNeedMostSteps(t *testing.T) {
	for s, words := range wordsBySigns(7) {
		most, slowest, count := -1, "", 0
		for _, w := range words {
			steps := len(walkOfWord(w).places)
			if steps > most {
				most, slowest, count = steps, w, 0
			}
			if steps == most {
				count++
			}
		}
		// No two words with the same signs need the most steps, so the first one is the only one.
		if count != 1 {
			t.Errorf("%+v: %d words need %d steps", s, count, most)
		}
		wantOne(t, "SlowestWord", slowest)(impl.SlowestWord(s.lefts, s.rights))
		wantOne(t, "StepsToRest", most)(impl.StepsToRest(slowest))
	}
	wantOne(t, "SlowestWord of none", "")(impl.SlowestWord(0, 0))
	wantOne(t, "SlowestWord of l alone", "lllllll")(impl.SlowestWord(7, 0))
	wantOne(t, "SlowestWord of r alone", "rrrrrrr")(impl.SlowestWord(0, 7))
	wantOne(t, "SlowestWord of 7 and 7", "rrrrrrrlllllll")(impl.SlowestWord(7, 7))
}

func TestWordsThatNeedOneStepLessThanTheyHaveSigns(t *testing.T) {
	for lefts := 1; lefts < impl.MaxWord; lefts++ {
		for rights := 1; lefts+rights <= impl.MaxWord; rights++ {
			w := strings.Repeat("r", rights) + strings.Repeat("l", lefts)
			rest := strings.Repeat("l", lefts) + strings.Repeat("r", rights)
			wantOne(t, "StepsToRest "+w, len(w)-1)(impl.StepsToRest(w))
			wantOne(t, "MeetingsOfWord "+w, lefts*rights)(impl.MeetingsOfWord(w))
			wantOne(t, "WordAfter", rest)(impl.WordAfter(w, len(w)-1))
			if last, ok := impl.WordAfter(w, len(w)-2); !ok || last == rest {
				t.Error("WordAfter", w, last, ok)
			}
		}
	}
}

func TestWordsAtRest(t *testing.T) {
	for length := range impl.MaxWord + 1 {
		for lefts := range length + 1 {
			w := strings.Repeat("l", lefts) + strings.Repeat("r", length-lefts)
			for _, steps := range []int{0, 1, 13, 14, 20} {
				wantOne(t, "WordAfter", w)(impl.WordAfter(w, steps))
			}
			wantOne(t, "StepsToRest", 0)(impl.StepsToRest(w))
			wantOne(t, "MeetingsOfWord", 0)(impl.MeetingsOfWord(w))
			wantList(t, "MeetingsBySteps", []int{})(impl.MeetingsBySteps(w))
			wantList(t, "FacingPlaces", []int{})(impl.FacingPlaces(w))
			wantList(t, "NumbersOfWord", make([]int, lefts))(impl.NumbersOfWord(w))
		}
	}
}

func TestIsWordByItsSigns(t *testing.T) {
	eachShortText("lrLx ", func(s string) {
		if want := strings.Count(s, "l")+strings.Count(s, "r") == len(s); impl.IsWord(s) != want {
			t.Fatalf("IsWord(%q) is %v", s, !want)
		}
	})
	for _, w := range manyWords() {
		if !impl.IsWord(w) || impl.IsWord(w+"\n") || impl.IsWord(" "+w) || impl.IsWord(w+"x"+w) {
			t.Fatalf("IsWord(%q)", w)
		}
	}
	for _, w := range longWords() {
		if impl.IsWord(w+"l") || impl.IsWord(w+"r") || impl.IsWord("l"+w) || impl.IsWord(w+w) {
			t.Fatalf("IsWord(%q) with more signs", w)
		}
	}
	for _, s := range noWords() {
		if impl.IsWord(s) {
			t.Errorf("IsWord(%q)", s)
		}
	}
}
