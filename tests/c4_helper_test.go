package tests

import (
	"math"
	"slices"

	"loop.example/ordercounts/impl"
)

// wordsUpTo returns all words of 0 to n letters, without the program's help.
func wordsUpTo(n int) [][]int {
	var all [][]int
	for k := range n + 1 {
		all = append(all, listsOf(k, 0, impl.MaxLetter)...)
	}
	return all
}

// contentsUpTo returns all contents of 0 to n letters.
func contentsUpTo(n int) [][]int {
	return slices.DeleteFunc(listsOf(impl.MaxLetter+1, 0, n), func(c []int) bool { return sum(c) > n })
}

// timesIn returns how often each letter comes, without the program's help.
func timesIn(w []int) []int {
	times := make([]int, impl.MaxLetter+1)
	for _, x := range w {
		times[x]++
	}
	return times
}

// wordsWith returns all words of a content, the lesser letter at the first difference first, without the program's help.
func wordsWith(c []int) [][]int {
	return slices.DeleteFunc(listsOf(sum(c), 0, impl.MaxLetter), func(w []int) bool { return !slices.Equal(timesIn(w), c) })
}

// notWords returns lists of numbers that are no words.
func notWords() [][]int {
	return [][]int{
		{-1},
		{impl.MaxLetter + 1},
		{0, impl.MaxLetter + 1},
		{impl.MaxLetter + 1, 0},
		{3, 2, 1, 0, -1},
		{0, 0, 0, 0, 0, 0, 4},
		{math.MinInt},
		{math.MaxInt},
		{0, math.MinInt, 1},
		{1, math.MaxInt, 0},
		{0, 1, 2, 3, 0, 1, 2, 3},
		make([]int, impl.MaxN+1),
		make([]int, 1000),
	}
}

// notContents returns lists of numbers that are the content of no word.
func notContents() [][]int {
	return [][]int{
		nil,
		{},
		{0},
		{1, 1},
		{1, 1, 1},
		{0, 0, 0, 0, 0},
		{1, 1, 1, 1, 0},
		{-1, 0, 0, 0},
		{0, 0, 0, -1},
		{2, -1, 0, 0},
		{-1, 2, 1, 1},
		{4, 4, 0, 0},
		{2, 2, 2, 2},
		{8, 0, 0, 0},
		{0, 0, 0, 8},
		{8, -1, 0, 0},
		{math.MinInt, 0, 0, 0},
		{0, 0, 0, math.MaxInt},
		{math.MaxInt, 1, 0, 0},
		{math.MaxInt, math.MinInt, 1, 1},
		// The sums of these run over to 0, 3, 0 and 5.
		{math.MaxInt, math.MaxInt, 2, 0},
		{math.MinInt, math.MinInt, 0, 3},
		{1, math.MaxInt, math.MaxInt, 1},
		{3, math.MaxInt, math.MaxInt, 4},
		make([]int, 1000),
	}
}

// setsOf returns how many sets of k of n things there are.
func setsOf(n, k int) int {
	return factorial(n) / factorial(k) / factorial(n-k)
}

// rowFor returns how many lists have the number 0, 1, and so on, up to the greatest one.
func rowFor(lists [][]int, number func([]int) int) []int {
	var numbers []int
	for _, list := range lists {
		numbers = append(numbers, number(list))
	}
	row := make([]int, slices.Max(numbers)+1)
	for _, x := range numbers {
		row[x]++
	}
	return row
}

// rowsTimes returns the product of rows, without the program's help.
func rowsTimes(rows ...[]int) []int {
	product := []int{1}
	for _, row := range rows {
		next := make([]int, len(product)+len(row)-1)
		for k := range next {
			for i, x := range product {
				if k-i >= 0 && k-i < len(row) {
					next[k] += x * row[k-i]
				}
			}
		}
		product = next
	}
	return product
}
