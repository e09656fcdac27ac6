package tests

import (
	"math"
	"slices"
	"testing"

	"loop.example/ordercounts/impl"
)

// inserted returns an order with one greater value at a place that there is.
func inserted(t *testing.T, p []int, k int) []int {
	t.Helper()
	q, ok := impl.InsertTop(p, k)
	if !ok {
		t.Fatalf("InsertTop(%v, %d) = %v, false", p, k, q)
	}
	return q
}

// removed returns an order without the value at a place that there is.
func removed(t *testing.T, p []int, k int) []int {
	t.Helper()
	q, ok := impl.RemoveAt(p, k)
	if !ok {
		t.Fatalf("RemoveAt(%v, %d) = %v, false", p, k, q)
	}
	return q
}

// majorAmong returns the sum of the places right behind which a lesser value stands, each with 1 more.
func majorAmong(list []int) int {
	total := 0
	for k := range list {
		if fallsAt(list, k) {
			total += k + 1
		}
	}
	return total
}

// majorTableOf returns what each value adds to the major index, without the program's help.
func majorTableOf(p []int) []int {
	table := []int{}
	for x := range p {
		upTo := slices.DeleteFunc(slices.Clone(p), func(y int) bool { return y > x })
		lesser := slices.DeleteFunc(slices.Clone(p), func(y int) bool { return y >= x })
		table = append(table, majorAmong(upTo)-majorAmong(lesser))
	}
	return table
}

// majorTables returns all tables of n numbers, each no greater than its place.
func majorTables(n int) [][]int {
	if n == 0 {
		return [][]int{{}}
	}
	var all [][]int
	for _, lesser := range majorTables(n - 1) {
		for x := range n {
			all = append(all, append(slices.Clone(lesser), x))
		}
	}
	return all
}

func TestInsertTop(t *testing.T) {
	for _, p := range ordersUpTo(impl.MaxN - 1) {
		for k := range len(p) + 1 {
			want := slices.Concat(p[:k], []int{len(p)}, p[k:])
			if q := inserted(t, p, k); !slices.Equal(q, want) {
				t.Fatalf("InsertTop(%v, %d) = %v", p, k, q)
			}
		}
	}
}

func TestInsertTopAtBothEnds(t *testing.T) {
	cases := []struct {
		p     []int
		k     int
		wider []int
	}{
		{nil, 0, []int{0}},
		{[]int{0}, 0, []int{1, 0}},
		{[]int{0}, 1, []int{0, 1}},
		{[]int{1, 0}, 0, []int{2, 1, 0}},
		{[]int{1, 0}, 2, []int{1, 0, 2}},
		{[]int{2, 4, 0, 5, 1, 3}, 0, []int{6, 2, 4, 0, 5, 1, 3}},
		{[]int{2, 4, 0, 5, 1, 3}, 6, []int{2, 4, 0, 5, 1, 3, 6}},
	}
	for _, c := range cases {
		if q := inserted(t, c.p, c.k); !slices.Equal(q, c.wider) {
			t.Errorf("InsertTop(%v, %d) = %v", c.p, c.k, q)
		}
		if p := removed(t, c.wider, c.k); !slices.Equal(p, c.p) {
			t.Errorf("RemoveAt(%v, %d) = %v", c.wider, c.k, p)
		}
	}
}

func TestInsertTopOfOtherArguments(t *testing.T) {
	for _, p := range ordersUpTo(4) {
		for _, k := range []int{-1, len(p) + 1, math.MinInt, math.MaxInt} {
			if q, ok := impl.InsertTop(p, k); ok || len(q) != 0 {
				t.Fatalf("InsertTop(%v, %d) = %v, %v", p, k, q, ok)
			}
		}
	}
	for _, p := range append(notOrders(), impl.RisingOrder(impl.MaxN), []int{6, 5, 4, 3, 2, 1, 0}) {
		for k := -1; k <= len(p)+1; k++ {
			if q, ok := impl.InsertTop(p, k); ok || len(q) != 0 {
				t.Fatalf("InsertTop(%v, %d) = %v, %v", p, k, q, ok)
			}
		}
	}
}

func TestRemoveAt(t *testing.T) {
	for _, p := range ordersUpTo(impl.MaxN) {
		for k, gone := range p {
			want := []int{}
			for i, x := range p {
				switch {
				case i != k && x > gone:
					want = append(want, x-1)
				case i != k:
					want = append(want, x)
				}
			}
			if q := removed(t, p, k); !slices.Equal(q, want) {
				t.Fatalf("RemoveAt(%v, %d) = %v, not %v", p, k, q, want)
			}
		}
	}
}

func TestRemoveAtOfKnownOrders(t *testing.T) {
	p := []int{2, 0, 3, 1}
	for k, want := range [][]int{{0, 2, 1}, {1, 2, 0}, {2, 0, 1}, {1, 0, 2}} {
		if q := removed(t, p, k); !slices.Equal(q, want) {
			t.Errorf("RemoveAt(%v, %d) = %v, not %v", p, k, q, want)
		}
	}
	if q := removed(t, []int{0}, 0); len(q) != 0 {
		t.Errorf("RemoveAt of the only value = %v", q)
	}
}

func TestRemoveAtOfOtherArguments(t *testing.T) {
	for _, p := range ordersUpTo(4) {
		for _, k := range []int{-1, len(p), len(p) + 1, math.MinInt, math.MaxInt} {
			if q, ok := impl.RemoveAt(p, k); ok || len(q) != 0 {
				t.Fatalf("RemoveAt(%v, %d) = %v, %v", p, k, q, ok)
			}
		}
	}
	for _, p := range notOrders() {
		for k := -1; k <= len(p); k++ {
			if q, ok := impl.RemoveAt(p, k); ok || len(q) != 0 {
				t.Fatalf("RemoveAt(%v, %d) = %v, %v", p, k, q, ok)
			}
		}
	}
}

func TestMajorTable(t *testing.T) {
	for _, p := range ordersUpTo(impl.MaxN) {
		table := majorTableOf(p)
		if !slices.Equal(impl.MajorTable(p), table) {
			t.Fatalf("MajorTable(%v) = %v, not %v", p, impl.MajorTable(p), table)
		}
		if q, ok := impl.OrderOfMajorTable(table); !ok || !slices.Equal(q, p) {
			t.Fatalf("OrderOfMajorTable(%v) = %v, %v, not %v", table, q, ok, p)
		}
	}
}

func TestMajorTableOfKnownOrders(t *testing.T) {
	cases := []struct{ p, table []int }{
		{nil, nil},
		{[]int{0}, []int{0}},
		{[]int{0, 1}, []int{0, 0}},
		{[]int{1, 0}, []int{0, 1}},
		{[]int{2, 0, 3, 1}, []int{0, 0, 1, 3}},
		{[]int{0, 1, 2, 3, 4, 5, 6}, make([]int, 7)},
		{[]int{6, 5, 4, 3, 2, 1, 0}, []int{0, 1, 2, 3, 4, 5, 6}},
	}
	for _, c := range cases {
		if table := impl.MajorTable(c.p); !slices.Equal(table, c.table) {
			t.Errorf("MajorTable(%v) = %v, not %v", c.p, table, c.table)
		}
		if p, ok := impl.OrderOfMajorTable(c.table); !ok || !slices.Equal(p, c.p) {
			t.Errorf("OrderOfMajorTable(%v) = %v, %v, not %v", c.table, p, ok, c.p)
		}
	}
}

func TestMajorTableOfOtherNumbers(t *testing.T) {
	for _, p := range notOrders() {
		if table := impl.MajorTable(p); len(table) != 0 {
			t.Errorf("MajorTable(%v) = %v", p, table)
		}
	}
}

func TestOrderOfMajorTableOfOtherNumbers(t *testing.T) {
	wrong := [][]int{{1}, {-1}, {1, 0}, {0, 2}, {0, -1}, {math.MinInt}, {math.MaxInt}, {0, math.MaxInt}, {0, 1, math.MinInt}, {0, 1, 2, 3, 4, 5, 7}, make([]int, impl.MaxN+1), make([]int, 1000)}
	for _, w := range wrong {
		if p, ok := impl.OrderOfMajorTable(w); ok || len(p) != 0 {
			t.Errorf("OrderOfMajorTable(%v) = %v, %v", w, p, ok)
		}
	}
	for n := range 5 {
		for _, table := range listsOf(n, -1, n) {
			fits := true
			for x, added := range table {
				fits = fits && added >= 0 && added <= x
			}
			if p, ok := impl.OrderOfMajorTable(table); ok != fits || !ok && len(p) != 0 {
				t.Fatalf("OrderOfMajorTable(%v) = %v, %v", table, p, ok)
			}
		}
	}
}

func TestPromise40AGreaterValueAddsEachNumberOnce(t *testing.T) {
	for _, p := range ordersUpTo(impl.MaxN - 1) {
		var added []int
		for k := range len(p) + 1 {
			q := inserted(t, p, k)
			added = append(added, impl.MajorOf(q)-impl.MajorOf(p))
			if behind := len(p) - k; impl.InversionsOf(q) != impl.InversionsOf(p)+behind {
				t.Fatalf("InsertTop(%v, %d) = %v, with %d inversions", p, k, q, impl.InversionsOf(q))
			}
		}
		slices.Sort(added)
		if len(added) != len(p)+1 || !rises(added) {
			t.Fatalf("InsertTop(%v) at all places adds %v", p, added)
		}
	}
}

func TestPromise41WhatValuesAddIsReadBack(t *testing.T) {
	for _, p := range ordersUpTo(impl.MaxN) {
		table := impl.MajorTable(p)
		if len(table) != len(p) || sum(table) != impl.MajorOf(p) {
			t.Fatalf("MajorTable(%v) = %v, MajorOf = %d", p, table, impl.MajorOf(p))
		}
		for x, added := range table {
			if added < 0 || added > x {
				t.Fatalf("MajorTable(%v) = %v", p, table)
			}
		}
		if q, ok := impl.OrderOfMajorTable(table); !ok || !slices.Equal(q, p) {
			t.Fatalf("MajorTable(%v) = %v, OrderOfMajorTable of it = %v, %v", p, table, q, ok)
		}
	}
}

func TestPromise42WhatValuesAddIsWrittenBack(t *testing.T) {
	for n := range impl.MaxN + 1 {
		for _, table := range majorTables(n) {
			if p, ok := impl.OrderOfMajorTable(table); !ok || !slices.Equal(impl.MajorTable(p), table) {
				t.Fatalf("OrderOfMajorTable(%v) = %v, %v, MajorTable of it = %v", table, p, ok, impl.MajorTable(p))
			}
		}
	}
}

func TestPromise43WhatIsPutInIsTakenOut(t *testing.T) {
	for _, p := range ordersUpTo(impl.MaxN - 1) {
		for k := range len(p) + 1 {
			q := inserted(t, p, k)
			if back := removed(t, q, slices.Index(q, slices.Max(q))); !slices.Equal(back, p) {
				t.Fatalf("InsertTop(%v, %d) = %v, without the greatest value %v", p, k, q, back)
			}
		}
	}
	for _, p := range ordersUpTo(impl.MaxN) {
		for k := range p {
			if q := removed(t, p, k); impl.InversionsOf(q) < 0 || impl.InversionsOf(q) > impl.InversionsOf(p) {
				t.Fatalf("RemoveAt(%v, %d) = %v, with %d inversions", p, k, q, impl.InversionsOf(q))
			}
		}
	}
}
