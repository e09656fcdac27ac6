package tests

import (
	"slices"
	"testing"

	"loop.example/ordercounts/impl"
)

// mixesOf returns all ways to put two lists together, with the first one ahead first, without the program's help.
func mixesOf(a, b []int) [][]int {
	if len(a) == 0 || len(b) == 0 {
		return [][]int{slices.Concat(a, b)}
	}
	var all [][]int
	for _, rest := range mixesOf(a[1:], b) {
		all = append(all, slices.Concat(a[:1], rest))
	}
	for _, rest := range mixesOf(a, b[1:]) {
		all = append(all, slices.Concat(b[:1], rest))
	}
	return all
}

// above returns the values of a list moved up.
func above(list []int, up int) []int {
	var moved []int
	for _, x := range list {
		moved = append(moved, x+up)
	}
	return moved
}

// mixRow returns the row of two orders that have one.
func mixRow(t *testing.T, p, q []int, byMajor bool) []int {
	t.Helper()
	row, ok := impl.MixRow(p, q, byMajor)
	if !ok {
		t.Fatalf("MixRow(%v, %v, %v) = %v, false", p, q, byMajor, row)
	}
	return row
}

// pairsToMix returns all two orders that have at most n values together.
func pairsToMix(n int) [][2][]int {
	var all [][2][]int
	for _, p := range ordersUpTo(n) {
		for _, q := range ordersUpTo(n - len(p)) {
			all = append(all, [2][]int{p, q})
		}
	}
	return all
}

func TestMixOrdersAndRow(t *testing.T) {
	for _, pair := range pairsToMix(impl.MaxList) {
		p, q := pair[0], pair[1]
		mixes := mixesOf(p, above(q, len(p)))
		if mixed := impl.MixOrders(p, q); !equalRows(mixed, mixes) {
			t.Fatalf("MixOrders(%v, %v) = %v, not %v", p, q, mixed, mixes)
		}
		if row := mixRow(t, p, q, false); !slices.Equal(row, rowFor(mixes, inversionsAmong)) {
			t.Fatalf("MixRow(%v, %v, false) = %v", p, q, row)
		}
		if row := mixRow(t, p, q, true); !slices.Equal(row, rowFor(mixes, majorAmong)) {
			t.Fatalf("MixRow(%v, %v, true) = %v", p, q, row)
		}
	}
}

func TestKnownMixes(t *testing.T) {
	cases := []struct {
		p, q  []int
		mixed [][]int
		row   []int
	}{
		{nil, nil, [][]int{{}}, []int{1}},
		{[]int{0}, nil, [][]int{{0}}, []int{1}},
		{nil, []int{0}, [][]int{{0}}, []int{1}},
		{[]int{0}, []int{0}, [][]int{{0, 1}, {1, 0}}, []int{1, 1}},
		{[]int{1, 0}, []int{0}, [][]int{{1, 0, 2}, {1, 2, 0}, {2, 1, 0}}, []int{0, 1, 1, 1}},
		{[]int{0}, []int{1, 0}, [][]int{{0, 2, 1}, {2, 0, 1}, {2, 1, 0}}, nil},
		{[]int{0, 1}, []int{0, 1}, [][]int{{0, 1, 2, 3}, {0, 2, 1, 3}, {0, 2, 3, 1}, {2, 0, 1, 3}, {2, 0, 3, 1}, {2, 3, 0, 1}}, []int{1, 1, 2, 1, 1}},
	}
	for _, c := range cases {
		if mixed := impl.MixOrders(c.p, c.q); !equalRows(mixed, c.mixed) {
			t.Errorf("MixOrders(%v, %v) = %v, not %v", c.p, c.q, mixed, c.mixed)
		}
		for _, byMajor := range []bool{false, true} {
			if row := mixRow(t, c.p, c.q, byMajor); c.row != nil && !slices.Equal(row, c.row) {
				t.Errorf("MixRow(%v, %v, %v) = %v, not %v", c.p, c.q, byMajor, row, c.row)
			}
		}
	}
}

func TestOrdersMixedWithNone(t *testing.T) {
	for _, p := range ordersUpTo(impl.MaxList) {
		for _, pair := range [][2][]int{{p, nil}, {nil, p}, {p, {}}, {{}, p}} {
			if mixed := impl.MixOrders(pair[0], pair[1]); !equalRows(mixed, [][]int{p}) {
				t.Fatalf("MixOrders(%v, %v) = %v", pair[0], pair[1], mixed)
			}
			// The only order is counted in the last number of the row.
			inversions := append(make([]int, inversionsAmong(p)), 1)
			major := append(make([]int, majorAmong(p)), 1)
			if !slices.Equal(mixRow(t, pair[0], pair[1], false), inversions) || !slices.Equal(mixRow(t, pair[0], pair[1], true), major) {
				t.Fatalf("MixRow(%v, %v) = %v, %v", pair[0], pair[1], mixRow(t, pair[0], pair[1], false), mixRow(t, pair[0], pair[1], true))
			}
		}
	}
}

func TestMixesOfOtherNumbers(t *testing.T) {
	check := func(p, q []int) {
		t.Helper()
		if mixed := impl.MixOrders(p, q); len(mixed) != 0 {
			t.Errorf("MixOrders(%v, %v) = %v", p, q, mixed)
		}
		for _, byMajor := range []bool{false, true} {
			if row, ok := impl.MixRow(p, q, byMajor); ok || len(row) != 0 {
				t.Errorf("MixRow(%v, %v, %v) = %v, %v", p, q, byMajor, row, ok)
			}
		}
	}
	for _, none := range notOrders() {
		for _, q := range append(notOrders(), nil, []int{0}, []int{1, 0}) {
			check(none, q)
			check(q, none)
		}
	}
	for n := range impl.MaxN + 1 {
		for m := range impl.MaxN + 1 {
			if n+m > impl.MaxList {
				check(impl.RisingOrder(n), impl.RisingOrder(m))
			}
		}
	}
}

func TestPromise56MixedOrdersKeepBoth(t *testing.T) {
	for _, pair := range pairsToMix(impl.MaxList) {
		p, q := pair[0], pair[1]
		mixed := impl.MixOrders(p, q)
		if len(mixed) != setsOf(len(p)+len(q), len(p)) {
			t.Fatalf("MixOrders(%v, %v) = %v", p, q, mixed)
		}
		seen := map[string]bool{}
		for _, order := range mixed {
			fromP := slices.DeleteFunc(slices.Clone(order), func(x int) bool { return x >= len(p) })
			fromQ := slices.DeleteFunc(slices.Clone(order), func(x int) bool { return x < len(p) })
			if !impl.ValidOrder(order) || !slices.Equal(fromP, p) || !slices.Equal(fromQ, above(q, len(p))) {
				t.Fatalf("MixOrders(%v, %v) have %v", p, q, order)
			}
			seen[impl.OrderText(order)] = true
		}
		if len(seen) != len(mixed) {
			t.Fatalf("MixOrders(%v, %v) = %v, with one order twice", p, q, mixed)
		}
	}
}

func TestPromise57MixedOrdersCountByBothAndByPlaces(t *testing.T) {
	for _, pair := range pairsToMix(impl.MaxList) {
		p, q := pair[0], pair[1]
		binomial := impl.BinomialRow(len(p)+len(q), len(p))
		counts := map[bool]int{
			false: impl.InversionsOf(p) + impl.InversionsOf(q),
			true:  impl.MajorOf(p) + impl.MajorOf(q),
		}
		for byMajor, up := range counts {
			want := append(make([]int, up), binomial...)
			if row := mixRow(t, p, q, byMajor); !slices.Equal(row, want) {
				t.Fatalf("MixRow(%v, %v, %v) = %v, not %v", p, q, byMajor, row, want)
			}
		}
	}
}
