package tests

import (
	"runtime"
	"slices"
	"sync"
	"testing"

	"loop.example/ordercounts/impl"
)

// repeatFunctions are the functions of the fourth layer that return a list, each as one that turns a list into a list.
func repeatFunctions() map[string]func([]int) []int {
	first := func(list []int, _ bool) []int { return list }
	return map[string]func([]int) []int{
		"ContentOf":             impl.ContentOf,
		"StandardOf":            impl.StandardOf,
		"ManyRow":               impl.ManyRow,
		"WordRow by inversions": func(c []int) []int { return first(impl.WordRow(c, false)) },
		"WordRow by major":      func(c []int) []int { return first(impl.WordRow(c, true)) },
		"MultiplyRows by 1":     func(a []int) []int { return impl.MultiplyRows(a, []int{1}) },
		"MultiplyRows of 1":     func(b []int) []int { return impl.MultiplyRows([]int{1}, b) },
		"MultiplyRows of one":   func(a []int) []int { return impl.MultiplyRows(a, a) },
		"MixRow with none":      func(p []int) []int { return first(impl.MixRow(p, nil, false)) },
		"MixRow of none":        func(q []int) []int { return first(impl.MixRow(nil, q, true)) },
	}
}

// listsFunctions are the functions of the fourth layer that return lists.
func listsFunctions() map[string]func([]int) [][]int {
	return map[string]func([]int) [][]int{
		"AllWords":            impl.AllWords,
		"MixOrders with none": func(p []int) [][]int { return impl.MixOrders(p, nil) },
		"MixOrders of none":   func(q []int) [][]int { return impl.MixOrders(nil, q) },
		"MixOrders with one":  func(p []int) [][]int { return impl.MixOrders(p, []int{0}) },
		"MixOrders of one":    func(q []int) [][]int { return impl.MixOrders([]int{0}, q) },
	}
}

// listsToKeep are words, contents, rows and orders, and numbers that are none of them.
func listsToKeep() [][]int {
	return [][]int{nil, {0}, {1}, {0, 1}, {1, 0}, {2, 0, 1}, {3, 0, 2, 1}, {0, 0, 0, 0}, {1, 0, 2, 1}, {2, 1, 1, 1}, {0, 5, 0, 0}, {1, 0, 1, 2, 0}, {4, -1}, {7, 7, 7, 7}}
}

func TestRepeatsAreFresh(t *testing.T) {
	for name, list := range repeatFunctions() {
		for _, p := range listsToKeep() {
			if !fresh(list, p) {
				t.Errorf("%s of %v changes or shares memory", name, p)
			}
		}
	}
	for _, n := range []int{0, 4, impl.MaxN} {
		for k := range n + 1 {
			row := impl.BinomialRow(n, k)
			again := slices.Clone(row)
			overwrite(row)
			if !slices.Equal(impl.BinomialRow(n, k), again) {
				t.Errorf("BinomialRow(%d, %d) is kept from call to call", n, k)
			}
		}
	}
}

func TestWordsAndMixesAreApart(t *testing.T) {
	for name, lists := range listsFunctions() {
		for _, p := range listsToKeep() {
			argument := append(make([]int, 0, 8), p...)
			before := slices.Clone(argument[:8])
			all := lists(argument)
			if !apart(all) || !slices.Equal(argument[:8], before) {
				t.Errorf("%s of %v share memory or change it", name, p)
			}
			if again := lists(argument); len(again) != len(all) || len(again) > 0 && slices.Contains(again[0], -9) {
				t.Errorf("%s of %v are kept from call to call", name, p)
			}
		}
	}
}

func TestCountsOfWordsKeepArguments(t *testing.T) {
	for _, p := range slices.Concat(listsToKeep(), notWords(), notContents(), notRows(), notOrders()) {
		before := slices.Clone(p)
		impl.ValidWord(p)
		impl.WordInversions(p)
		impl.WordMajor(p)
		impl.CountWords(p)
		for _, list := range repeatFunctions() {
			list(p)
		}
		for _, lists := range listsFunctions() {
			lists(p)
		}
		if !slices.Equal(p, before) {
			t.Errorf("%v became %v", before, p)
		}
	}
}

func TestWordsAtTheSameTime(t *testing.T) {
	c, p := []int{2, 1, 1, 1}, []int{2, 0, 1}
	words, mixed := impl.AllWords(c), impl.MixOrders(p, []int{1, 0})
	var calls sync.WaitGroup
	for range 20 {
		calls.Go(func() {
			if !equalRows(impl.AllWords(c), words) || !equalRows(impl.MixOrders(p, []int{1, 0}), mixed) {
				t.Error("calls at the same time return other lists")
			}
		})
	}
	calls.Wait()
}

func TestNoCallLeavesGoroutines(t *testing.T) {
	before := runtime.NumGoroutine()
	for range 200 {
		for _, p := range listsToKeep() {
			impl.ManyRow(p)
			impl.WordRow(p, true)
			impl.MixRow(p, []int{0}, false)
		}
	}
	// The last goroutines may be about to end, so some are allowed for, but far fewer than calls.
	if left := runtime.NumGoroutine() - before; left > 100 {
		t.Errorf("%d goroutines are left", left)
	}
}
