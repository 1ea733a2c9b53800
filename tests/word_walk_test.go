package tests

import (
	"slices"
	"testing"

	"loop.example/g01270/impl"
)

// wordWalk is what a word becomes step by step until nothing changes, itself with it, and
// the places of those that turn in each of these steps.
type wordWalk struct {
	words  []string
	places [][]int
}

// walkOfWord leads the signs of a word one by one: who looks to the right, and at once at
// one who looks to the left, changes places with it.
func walkOfWord(w string) wordWalk {
	now := []byte(w)
	walk := wordWalk{words: []string{w}}
	for {
		var places []int
		for i := 1; i < len(now); i++ {
			if now[i-1] > now[i] {
				places = append(places, i-1)
			}
		}
		if places == nil {
			return walk
		}
		for _, i := range places {
			now[i], now[i+1] = 'l', 'r'
		}
		walk.words = append(walk.words, string(now))
		walk.places = append(walk.places, places)
	}
}

// after returns the word behind so many steps of its walk.
func (w wordWalk) after(steps int) string { return w.words[min(steps, len(w.words)-1)] }

// counts returns how many meet in each step of a walk.
func (w wordWalk) counts() []int {
	var list []int
	for _, places := range w.places {
		list = append(list, len(places))
	}
	return list
}

// facingPairs returns how many pairs of a word look at each other, whoever is in between.
func facingPairs(w string) int {
	pairs := 0
	for i := range w {
		for j := range i {
			if w[j] == 'r' && w[i] == 'l' {
				pairs++
			}
		}
	}
	return pairs
}

// rightsBefore returns for each l of a word how many r are before it.
func rightsBefore(w string) []int {
	var numbers []int
	rights := 0
	for _, sign := range w {
		if sign == 'r' {
			rights++
		} else {
			numbers = append(numbers, rights)
		}
	}
	return numbers
}

// wordsOfLength returns all words with so many signs, in the order of texts.
func wordsOfLength(length int) []string {
	words := []string{""}
	for range length {
		var longer []string
		for _, w := range words {
			longer = append(longer, w+"l", w+"r")
		}
		words = longer
	}
	return words
}

// signs is how many l and r a word has.
type signs struct{ lefts, rights int }

func signsOf(w string) signs {
	s := signs{}
	for _, sign := range w {
		if sign == 'l' {
			s.lefts++
		} else {
			s.rights++
		}
	}
	return s
}

// wordsBySigns returns all words of at most MaxWord signs with at most so many l and as many r,
// in the order of texts.
func wordsBySigns(most int) map[signs][]string {
	sorted := map[signs][]string{}
	for length := range min(2*most, impl.MaxWord) + 1 {
		for _, w := range wordsOfLength(length) {
			if s := signsOf(w); s.lefts <= most && s.rights <= most {
				sorted[s] = append(sorted[s], w)
			}
		}
	}
	return sorted
}

// thrownWords returns words of many lengths up to MaxWord.
func thrownWords(count int) []string {
	d := dice(17)
	var words []string
	for range count {
		w := ""
		for range impl.MaxWord - d.below(5) {
			i := d.below(2)
			w += "lr"[i : i+1]
		}
		words = append(words, w)
	}
	return words
}

// longWords returns words at the limit, with one sign alone among them.
func longWords() []string {
	return []string{
		"llllllllllllll", "rrrrrrrrrrrrrr", "rrrrrrrlllllll", "lllllllrrrrrrr", "rlrlrlrlrlrlrl", "lrlrlrlrlrlrlr", "rlllllllllllll", "rrrrrrrrrrrrrl",
		"lrrrrrrrrrrrrr", "lllllllllllllr", "rrllrrllrrllrr", "rrrrrrllllllll", "rrrrrrrrllllll", "lrrrrrrllllllr",
	}
}

func manyWords() []string {
	var words []string
	for length := range 10 {
		words = append(words, wordsOfLength(length)...)
	}
	return slices.Concat(words, longWords(), thrownWords(400))
}

// eachWord runs a check with each word and its walk.
func eachWord(t *testing.T, check func(w string, walk wordWalk)) {
	t.Helper()
	for _, w := range manyWords() {
		check(w, walkOfWord(w))
		if t.Failed() {
			t.Fatalf("the word is %q", w)
		}
	}
}
