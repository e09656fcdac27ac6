package tests

import (
	"slices"
	"testing"

	"loop.example/ordercounts/impl"
)

func TestPlacesAreFresh(t *testing.T) {
	lists := map[string]func([]int) []int{"AboveOf": impl.AboveOf, "FixedOf": impl.FixedOf, "RecordsOf": impl.RecordsOf}
	for name, list := range lists {
		for _, p := range [][]int{{2, 1, 0}, {0, 1, 2}, {1, 0, 2, 4, 5, 3, 6}} {
			if !fresh(list, p) {
				t.Errorf("%s(%v) changes or shares memory", name, p)
			}
		}
	}
}

func TestNumbersKeepArguments(t *testing.T) {
	for _, p := range append(ordersUpTo(4), notOrders()...) {
		before := slices.Clone(p)
		impl.DenertOf(p)
		impl.ShiftOf(p)
		impl.CrossingsOf(p)
		impl.NestingsOf(p)
		for _, name := range append(countNames(), notNames()...) {
			impl.CountOf(name, p)
		}
		if !slices.Equal(p, before) {
			t.Fatalf("%v became %v", before, p)
		}
	}
}

func TestRowsAreFresh(t *testing.T) {
	rows := map[string]func(n int) []int{
		"EulerRow":   impl.EulerRow,
		"ProductRow": impl.ProductRow,
		"CircleRow":  impl.CircleRow,
		"RowOf":      func(n int) []int { return rowOf(t, "major", n) },
	}
	for name, row := range rows {
		for n := range impl.MaxList + 1 {
			first := row(n)
			again := slices.Clone(first)
			overwrite(first)
			if !slices.Equal(row(n), again) {
				t.Errorf("%s(%d) is kept from call to call", name, n)
			}
		}
	}
}

func TestPairRowsAreApart(t *testing.T) {
	for n := range impl.MaxList + 1 {
		before := pairRows(t, "descents", "major", n)
		if !apart(pairRows(t, "descents", "major", n)) {
			t.Errorf("PairRows of %d values share memory", n)
		}
		if !equalRows(pairRows(t, "descents", "major", n), before) {
			t.Errorf("PairRows of %d values are kept from call to call", n)
		}
	}
}
