package tests

import (
	"math"
	"slices"
)

// signedOf returns all signed orders of n numbers, by sizes and signs, without the program's help.
func signedOf(n int) [][]int {
	var all [][]int
	for _, p := range ordersOf(n) {
		for _, signs := range signsOf(n) {
			var w []int
			for k, x := range p {
				w = append(w, (x+1)*signs[k])
			}
			all = append(all, w)
		}
	}
	return all
}

// signsOf returns all lists of n signs. The last place changes least often, and 1 comes ahead of -1.
func signsOf(n int) [][]int {
	if n == 0 {
		return [][]int{{}}
	}
	var all [][]int
	for _, sign := range []int{1, -1} {
		for _, ahead := range signsOf(n - 1) {
			all = append(all, append(slices.Clone(ahead), sign))
		}
	}
	return all
}

// signedUpTo returns all signed orders of 0 to n numbers.
func signedUpTo(n int) [][]int {
	var all [][]int
	for k := range n + 1 {
		all = append(all, signedOf(k)...)
	}
	return all
}

// otherSigns returns numbers with all other signs.
func otherSigns(w []int) []int {
	others := []int{}
	for _, x := range w {
		others = append(others, -x)
	}
	return others
}

// negativesAmong returns how many numbers are below 0.
func negativesAmong(w []int) int {
	return len(slices.DeleteFunc(slices.Clone(w), func(x int) bool { return x >= 0 }))
}

// lengthAmong returns the pairs of numbers with the greater one ahead, and the numbers below 0, without signs, together.
func lengthAmong(w []int) int {
	length := inversionsAmong(w)
	for _, x := range w {
		length += max(0, -x)
	}
	return length
}

// flagAmong returns twice the major index of numbers and how many are below 0, together.
func flagAmong(w []int) int {
	return 2*majorAmong(w) + negativesAmong(w)
}

// fallsAmong returns how often numbers fall if a 0 stands ahead of them.
func fallsAmong(w []int) int {
	falls := 0
	last := 0
	for _, x := range w {
		if x < last {
			falls++
		}
		last = x
	}
	return falls
}

// risesFromOne reports whether numbers are 1, 2, and so on.
func risesFromOne(w []int) bool {
	for k, x := range w {
		if x != k+1 {
			return false
		}
	}
	return true
}

// notSigned returns lists of numbers that are no signed orders.
func notSigned() [][]int {
	return [][]int{
		{0},
		{2},
		{-2},
		{1, -1},
		{-1, -1},
		{1, 1},
		{0, 1},
		{1, 0},
		{-1, 0},
		{2, 3},
		{1, 3},
		{-3, 1},
		{1, 2, 2},
		{3, -2, 2},
		{0, 1, 2},
		{1, 2, 3, 4, 6},
		{-1, -2, -3, -4, -6},
		{1, 2, 3, 4, 5, 6},
		{-1, -2, -3, -4, -5, -6},
		{1, 2, 3, 4, 5, 5},
		{math.MinInt},
		{math.MaxInt},
		{-math.MaxInt},
		{1, math.MinInt},
		{math.MinInt, math.MaxInt, 1},
		make([]int, 1000),
	}
}
