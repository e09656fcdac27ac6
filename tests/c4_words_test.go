package tests

import (
	"slices"
	"testing"

	"loop.example/ordercounts/impl"
)

// words are words of which the counts are known.
var words = []struct {
	w, content        []int
	inversions, major int
	standard          []int
}{
	{nil, []int{0, 0, 0, 0}, 0, 0, nil},
	{[]int{}, []int{0, 0, 0, 0}, 0, 0, []int{}},
	{[]int{0}, []int{1, 0, 0, 0}, 0, 0, []int{0}},
	{[]int{3}, []int{0, 0, 0, 1}, 0, 0, []int{0}},
	{[]int{2, 2, 2}, []int{0, 0, 3, 0}, 0, 0, []int{0, 1, 2}},
	{[]int{0, 0, 0, 0, 0, 0, 0}, []int{7, 0, 0, 0}, 0, 0, []int{0, 1, 2, 3, 4, 5, 6}},
	{[]int{3, 3, 3, 3, 3, 3, 3}, []int{0, 0, 0, 7}, 0, 0, []int{0, 1, 2, 3, 4, 5, 6}},
	{[]int{1, 0}, []int{1, 1, 0, 0}, 1, 1, []int{1, 0}},
	{[]int{0, 1, 0}, []int{2, 1, 0, 0}, 1, 2, []int{0, 2, 1}},
	{[]int{1, 0, 0}, []int{2, 1, 0, 0}, 2, 1, []int{2, 0, 1}},
	{[]int{1, 0, 1, 2, 0}, []int{2, 2, 1, 0}, 4, 5, []int{2, 0, 3, 4, 1}},
	{[]int{3, 3, 2, 2, 1, 1, 0}, []int{1, 2, 2, 2}, 18, 12, []int{5, 6, 3, 4, 1, 2, 0}},
}

func TestKnownWords(t *testing.T) {
	for _, c := range words {
		if !impl.ValidWord(c.w) || !slices.Equal(impl.ContentOf(c.w), c.content) {
			t.Errorf("of %v: ValidWord = %v, ContentOf = %v", c.w, impl.ValidWord(c.w), impl.ContentOf(c.w))
		}
		if impl.WordInversions(c.w) != c.inversions || impl.WordMajor(c.w) != c.major {
			t.Errorf("of %v: WordInversions = %d, WordMajor = %d", c.w, impl.WordInversions(c.w), impl.WordMajor(c.w))
		}
		if !slices.Equal(impl.StandardOf(c.w), c.standard) {
			t.Errorf("StandardOf(%v) = %v, not %v", c.w, impl.StandardOf(c.w), c.standard)
		}
	}
}

func TestValidWord(t *testing.T) {
	for n := range 6 {
		for _, w := range listsOf(n, -1, impl.MaxLetter+1) {
			fits := !slices.Contains(w, -1) && !slices.Contains(w, impl.MaxLetter+1)
			if impl.ValidWord(w) != fits {
				t.Fatalf("ValidWord(%v) = %v", w, !fits)
			}
		}
	}
	for _, w := range wordsUpTo(impl.MaxN) {
		if !impl.ValidWord(w) {
			t.Fatalf("ValidWord(%v) = false", w)
		}
	}
}

func TestWordsOfOtherNumbers(t *testing.T) {
	for _, w := range notWords() {
		if impl.ValidWord(w) || impl.WordInversions(w) != -1 || impl.WordMajor(w) != -1 {
			t.Errorf("of %v: ValidWord = %v, WordInversions = %d, WordMajor = %d", w, impl.ValidWord(w), impl.WordInversions(w), impl.WordMajor(w))
		}
		if content, standard := impl.ContentOf(w), impl.StandardOf(w); len(content) != 0 || len(standard) != 0 {
			t.Errorf("of %v: ContentOf = %v, StandardOf = %v", w, content, standard)
		}
	}
}

func TestCountsOfWords(t *testing.T) {
	for _, w := range wordsUpTo(impl.MaxN) {
		if !slices.Equal(impl.ContentOf(w), timesIn(w)) {
			t.Fatalf("ContentOf(%v) = %v", w, impl.ContentOf(w))
		}
		if impl.WordInversions(w) != inversionsAmong(w) || impl.WordMajor(w) != majorAmong(w) {
			t.Fatalf("of %v: WordInversions = %d, WordMajor = %d", w, impl.WordInversions(w), impl.WordMajor(w))
		}
	}
}

func TestStandardOf(t *testing.T) {
	for _, w := range wordsUpTo(impl.MaxN) {
		// Sorting the places by their letters, equal letters as they stand, tells what comes ahead of each.
		places := impl.RisingOrder(len(w))
		slices.SortStableFunc(places, func(i, k int) int { return w[i] - w[k] })
		want := make([]int, len(w))
		for x, k := range places {
			want[k] = x
		}
		if !slices.Equal(impl.StandardOf(w), want) {
			t.Fatalf("StandardOf(%v) = %v, not %v", w, impl.StandardOf(w), want)
		}
	}
}

func TestPromise45OrdersOfFewValuesAreWords(t *testing.T) {
	for _, p := range ordersUpTo(impl.MaxLetter + 1) {
		if !impl.ValidWord(p) || !slices.Equal(impl.StandardOf(p), p) {
			t.Errorf("of the order %v: ValidWord = %v, StandardOf = %v", p, impl.ValidWord(p), impl.StandardOf(p))
		}
	}
	if impl.ValidWord(impl.RisingOrder(impl.MaxLetter + 2)) {
		t.Error("an order of more values than letters is a word")
	}
	for _, w := range wordsUpTo(impl.MaxN) {
		if len(w) > 0 && !impl.ValidWord(w[:len(w)-1]) {
			t.Fatalf("ValidWord(%v without its last letter) = false", w)
		}
		if standard := impl.StandardOf(w); len(standard) != len(w) || !impl.ValidOrder(standard) {
			t.Fatalf("StandardOf(%v) = %v", w, standard)
		}
	}
}

func TestPromise46ContentsAreAllLetters(t *testing.T) {
	for _, w := range wordsUpTo(impl.MaxN) {
		content := impl.ContentOf(w)
		if len(content) != impl.MaxLetter+1 || sum(content) != len(w) {
			t.Fatalf("ContentOf(%v) = %v", w, content)
		}
	}
	for _, w := range wordsUpTo(impl.MaxList) {
		all := impl.AllWords(impl.ContentOf(w))
		if !slices.ContainsFunc(all, func(v []int) bool { return slices.Equal(v, w) }) {
			t.Fatalf("AllWords(%v) = %v, without %v", impl.ContentOf(w), all, w)
		}
	}
}

func TestPromise47InversionsOfWordsAreThoseOfOrders(t *testing.T) {
	for _, w := range wordsUpTo(impl.MaxN) {
		if standard := impl.StandardOf(w); impl.WordInversions(w) < 0 || impl.WordInversions(w) != impl.InversionsOf(standard) {
			t.Fatalf("WordInversions(%v) = %d, InversionsOf(%v) = %d", w, impl.WordInversions(w), standard, impl.InversionsOf(standard))
		}
	}
}

func TestPromise48MajorIndicesOfWordsAreThoseOfOrders(t *testing.T) {
	for _, w := range wordsUpTo(impl.MaxN) {
		if standard := impl.StandardOf(w); impl.WordMajor(w) < 0 || impl.WordMajor(w) != impl.MajorOf(standard) {
			t.Fatalf("WordMajor(%v) = %d, MajorOf(%v) = %d", w, impl.WordMajor(w), standard, impl.MajorOf(standard))
		}
	}
}

func TestPromise49EqualLettersRise(t *testing.T) {
	for _, w := range wordsUpTo(impl.MaxN) {
		standard := impl.StandardOf(w)
		if len(standard) != len(w) {
			t.Fatalf("StandardOf(%v) = %v", w, standard)
		}
		for k := range w {
			for i := range k {
				if (standard[i] < standard[k]) != (w[i] <= w[k]) {
					t.Fatalf("StandardOf(%v) = %v at the places %d and %d", w, standard, i, k)
				}
			}
		}
	}
}
