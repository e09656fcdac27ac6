package tests

import (
	"math"
	"slices"
	"testing"

	"loop.example/ordercounts/impl"
)

// ordersOf returns all orders of n values, the lesser value at the first difference first, without the program's help.
func ordersOf(n int) [][]int {
	if n == 0 {
		return [][]int{{}}
	}
	var all [][]int
	for first := range n {
		for _, rest := range ordersOf(n - 1) {
			order := []int{first}
			for _, x := range rest {
				if x >= first {
					x++
				}
				order = append(order, x)
			}
			all = append(all, order)
		}
	}
	return all
}

// ordersUpTo returns all orders of 0 to n values.
func ordersUpTo(n int) [][]int {
	var all [][]int
	for k := range n + 1 {
		all = append(all, ordersOf(k)...)
	}
	return all
}

// listsOf returns all lists of n numbers from low to high.
func listsOf(n, low, high int) [][]int {
	if n == 0 {
		return [][]int{{}}
	}
	var all [][]int
	for _, rest := range listsOf(n-1, low, high) {
		for x := low; x <= high; x++ {
			all = append(all, append(slices.Clone(rest), x))
		}
	}
	return all
}

// notOrders returns lists of numbers that are no orders.
func notOrders() [][]int {
	return [][]int{
		{1},
		{-1},
		{0, 0},
		{1, 1},
		{1, 2},
		{0, 2},
		{-1, 0},
		{0, 1, 1},
		{0, 1, 3},
		{3, 2, 1},
		{math.MinInt, 0},
		{0, math.MaxInt},
		{0, 1, 2, 3, 4, 5, 7},
		{0, 1, 2, 3, 4, 5, 5},
		{0, 1, 2, 3, 4, 5, 6, 7},
		{7, 6, 5, 4, 3, 2, 1, 0},
		make([]int, 1000),
	}
}

func factorial(n int) int {
	product := 1
	for k := 2; k <= n; k++ {
		product *= k
	}
	return product
}

// allPairs returns how many pairs n things have.
func allPairs(n int) int {
	return n * (n - 1) / 2
}

// rises reports whether numbers are 0, 1, and so on.
func rises(p []int) bool {
	for k, x := range p {
		if x != k {
			return false
		}
	}
	return true
}

// product returns the product of orders that have one.
func product(t *testing.T, p, q []int) []int {
	t.Helper()
	r, ok := impl.MultiplyOrders(p, q)
	if !ok || len(r) != len(p) {
		t.Fatalf("MultiplyOrders(%v, %v) = %v, %v", p, q, r, ok)
	}
	return r
}

// sum returns the values summed up.
func sum(list []int) int {
	total := 0
	for _, x := range list {
		total += x
	}
	return total
}
