package tests

import (
	"slices"
	"testing"

	"loop.example/ordercounts/impl"
)

// exchanges returns all ways to exchange the numbers of a content.
func exchanges(c []int) [][]int {
	var all [][]int
	for _, p := range ordersOf(len(c)) {
		var other []int
		for _, x := range p {
			other = append(other, c[x])
		}
		all = append(all, other)
	}
	return all
}

func TestAllWords(t *testing.T) {
	for _, c := range contentsUpTo(impl.MaxList) {
		if all := impl.AllWords(c); !equalRows(all, wordsWith(c)) {
			t.Errorf("AllWords(%v) = %v", c, all)
		}
	}
}

func TestAllWordsOfKnownContents(t *testing.T) {
	cases := []struct {
		c   []int
		all [][]int
	}{
		{[]int{0, 0, 0, 0}, [][]int{{}}},
		{[]int{1, 0, 0, 0}, [][]int{{0}}},
		{[]int{0, 0, 0, 1}, [][]int{{3}}},
		{[]int{5, 0, 0, 0}, [][]int{{0, 0, 0, 0, 0}}},
		{[]int{0, 0, 5, 0}, [][]int{{2, 2, 2, 2, 2}}},
		{[]int{2, 1, 0, 0}, [][]int{{0, 0, 1}, {0, 1, 0}, {1, 0, 0}}},
		{[]int{0, 1, 0, 2}, [][]int{{1, 3, 3}, {3, 1, 3}, {3, 3, 1}}},
		{[]int{1, 1, 1, 0}, ordersOf(3)},
		{[]int{1, 1, 1, 1}, ordersOf(4)},
	}
	for _, c := range cases {
		if all := impl.AllWords(c.c); !equalRows(all, c.all) {
			t.Errorf("AllWords(%v) = %v, not %v", c.c, all, c.all)
		}
	}
}

func TestCountWords(t *testing.T) {
	counted := map[[4]int]int{}
	for _, w := range wordsUpTo(impl.MaxN) {
		counted[[4]int(timesIn(w))]++
	}
	for _, c := range contentsUpTo(impl.MaxN) {
		if count := impl.CountWords(c); count != counted[[4]int(c)] {
			t.Errorf("CountWords(%v) = %d, not %d", c, count, counted[[4]int(c)])
		}
	}
}

func TestContentsOfOneLetterOrNone(t *testing.T) {
	for times := range impl.MaxN + 1 {
		for letter := range impl.MaxLetter + 1 {
			c := make([]int, impl.MaxLetter+1)
			c[letter] = times
			if impl.CountWords(c) != 1 || !slices.Equal(impl.ManyRow(c), []int{1}) {
				t.Errorf("of %v: CountWords = %d, ManyRow = %v", c, impl.CountWords(c), impl.ManyRow(c))
			}
			all, row := impl.AllWords(c), wordRowOrNone(c)
			if times > impl.MaxList {
				if len(all) != 0 || len(row) != 0 {
					t.Errorf("of %v: AllWords = %v, WordRow = %v", c, all, row)
				}
				continue
			}
			if !equalRows(all, [][]int{slices.Repeat([]int{letter}, times)}) || !slices.Equal(row, []int{1}) {
				t.Errorf("of %v: AllWords = %v, WordRow = %v", c, all, row)
			}
		}
	}
}

func TestContentsOfOtherNumbers(t *testing.T) {
	for _, c := range notContents() {
		if all, row := impl.AllWords(c), impl.ManyRow(c); len(all) != 0 || len(row) != 0 || impl.CountWords(c) != -1 {
			t.Errorf("of %v: AllWords = %v, ManyRow = %v, CountWords = %d", c, all, row, impl.CountWords(c))
		}
		for _, byMajor := range []bool{false, true} {
			if row, ok := impl.WordRow(c, byMajor); ok || len(row) != 0 {
				t.Errorf("WordRow(%v, %v) = %v, %v", c, byMajor, row, ok)
			}
		}
	}
	for n := range 6 {
		for _, c := range listsOf(n, -1, 2) {
			fits := n == impl.MaxLetter+1 && !slices.Contains(c, -1) && sum(c) <= impl.MaxN
			if valid := impl.CountWords(c) > 0; valid != fits || !valid && impl.CountWords(c) != -1 {
				t.Fatalf("CountWords(%v) = %d", c, impl.CountWords(c))
			}
			if many := len(impl.ManyRow(c)) > 0; many != fits {
				t.Fatalf("ManyRow(%v) = %v", c, impl.ManyRow(c))
			}
			listed := fits && sum(c) <= impl.MaxList
			if all := impl.AllWords(c); len(all) > 0 != listed {
				t.Fatalf("AllWords(%v) = %v", c, all)
			}
			if row, ok := impl.WordRow(c, true); ok != listed || len(row) > 0 != listed {
				t.Fatalf("WordRow(%v, true) = %v, %v", c, row, ok)
			}
		}
	}
}

func TestContentsOfTooManyLettersToList(t *testing.T) {
	for _, c := range contentsUpTo(impl.MaxN) {
		if sum(c) <= impl.MaxList {
			continue
		}
		if all := impl.AllWords(c); len(all) != 0 {
			t.Errorf("AllWords(%v) = %v", c, all)
		}
		for _, byMajor := range []bool{false, true} {
			if row, ok := impl.WordRow(c, byMajor); ok || len(row) != 0 {
				t.Errorf("WordRow(%v, %v) = %v, %v", c, byMajor, row, ok)
			}
		}
	}
}

func TestPromise50AllWordsHaveTheContent(t *testing.T) {
	for _, c := range contentsUpTo(impl.MaxList) {
		all := impl.AllWords(c)
		if len(all) == 0 || len(all) != impl.CountWords(c) {
			t.Errorf("AllWords(%v) = %v, CountWords = %d", c, all, impl.CountWords(c))
		}
		for k, w := range all {
			if !impl.ValidWord(w) || !slices.Equal(impl.ContentOf(w), c) {
				t.Errorf("AllWords(%v) have %v", c, w)
			}
			if k > 0 && slices.Compare(all[k-1], w) >= 0 {
				t.Errorf("AllWords(%v) have %v ahead of %v", c, all[k-1], w)
			}
		}
	}
}

func TestPromise51WordsAreCountedByRows(t *testing.T) {
	for _, c := range contentsUpTo(impl.MaxN) {
		if count := impl.CountWords(c); count < 1 || count != sum(impl.ManyRow(c)) {
			t.Errorf("CountWords(%v) = %d, ManyRow = %v", c, count, impl.ManyRow(c))
		}
		for _, other := range exchanges(c) {
			if impl.CountWords(other) != impl.CountWords(c) || !slices.Equal(impl.ManyRow(other), impl.ManyRow(c)) {
				t.Errorf("CountWords(%v) = %d, CountWords(%v) = %d", c, impl.CountWords(c), other, impl.CountWords(other))
			}
		}
	}
}
