package tests

import (
	"math"
	"slices"
	"testing"

	"loop.example/ordercounts/impl"
)

// signedNames are the names that SignedRow has, with what they count.
func signedNames() map[string]func(w []int) int {
	return map[string]func(w []int) int{
		"length":    lengthAmong,
		"flag":      flagAmong,
		"falls":     fallsAmong,
		"negatives": negativesAmong,
	}
}

// signedRow returns the row of a name that has one.
func signedRow(t *testing.T, name string, n int) []int {
	t.Helper()
	row, ok := impl.SignedRow(name, n)
	if !ok {
		t.Fatalf("SignedRow(%q, %d) = %v, false", name, n, row)
	}
	return row
}

// allSigns returns how many lists of n signs there are.
func allSigns(n int) int {
	return 1 << n
}

func TestAllSigned(t *testing.T) {
	for n := range impl.MaxSignedList + 1 {
		if all := impl.AllSigned(n); !equalRows(all, signedOf(n)) {
			t.Errorf("AllSigned(%d) = %v", n, all)
		}
	}
	few := [][][]int{
		{{}},
		{{1}, {-1}},
		{{1, 2}, {-1, 2}, {1, -2}, {-1, -2}, {2, 1}, {-2, 1}, {2, -1}, {-2, -1}},
	}
	for n, want := range few {
		if all := impl.AllSigned(n); !equalRows(all, want) {
			t.Errorf("AllSigned(%d) = %v", n, all)
		}
	}
	for _, n := range []int{math.MinInt, -1, impl.MaxSignedList + 1, impl.MaxSigned, 64, math.MaxInt} {
		if all := impl.AllSigned(n); all != nil {
			t.Errorf("AllSigned(%d) = %v", n, all)
		}
	}
}

func TestSignedRow(t *testing.T) {
	for name, number := range signedNames() {
		for n := range impl.MaxSignedList + 1 {
			if row := signedRow(t, name, n); !slices.Equal(row, rowFor(signedOf(n), number)) {
				t.Errorf("SignedRow(%q, %d) = %v", name, n, row)
			}
		}
		if row := signedRow(t, name, 0); !slices.Equal(row, []int{1}) {
			t.Errorf("SignedRow(%q, 0) = %v", name, row)
		}
	}
}

func TestSignedRowOfOtherArguments(t *testing.T) {
	for name := range signedNames() {
		for _, n := range []int{math.MinInt, -1, impl.MaxSignedList + 1, impl.MaxSigned, math.MaxInt} {
			if row, ok := impl.SignedRow(name, n); ok || row != nil {
				t.Errorf("SignedRow(%q, %d) = %v, %v", name, n, row, ok)
			}
		}
	}
	for _, name := range append(countNames(), "", " ", "Length", "lengths", "length ", " flag", "fla", "FALLS", "fall", "negative", "table", "LengthOf") {
		for n := -1; n <= impl.MaxSignedList+1; n++ {
			if row, ok := impl.SignedRow(name, n); ok || row != nil {
				t.Errorf("SignedRow(%q, %d) = %v, %v", name, n, row, ok)
			}
		}
	}
}

func TestDoubleAndFallRow(t *testing.T) {
	for n := range impl.MaxSigned + 1 {
		all := signedOf(n)
		if row := impl.DoubleRow(n); !slices.Equal(row, rowFor(all, lengthAmong)) {
			t.Errorf("DoubleRow(%d) = %v", n, row)
		}
		if row := impl.FallRow(n); !slices.Equal(row, rowFor(all, fallsAmong)) {
			t.Errorf("FallRow(%d) = %v", n, row)
		}
	}
	for _, n := range []int{math.MinInt, -1, impl.MaxSigned + 1, impl.MaxN, math.MaxInt} {
		if impl.DoubleRow(n) != nil || impl.FallRow(n) != nil {
			t.Errorf("DoubleRow(%d) = %v, FallRow = %v", n, impl.DoubleRow(n), impl.FallRow(n))
		}
	}
}

func TestKnownRowsOfSigned(t *testing.T) {
	doubles := [][]int{{1}, {1, 1}, {1, 2, 2, 2, 1}, {1, 3, 5, 7, 8, 8, 7, 5, 3, 1}}
	for n, want := range doubles {
		if row := impl.DoubleRow(n); !slices.Equal(row, want) {
			t.Errorf("DoubleRow(%d) = %v", n, row)
		}
	}
	falls := [][]int{{1}, {1, 1}, {1, 6, 1}, {1, 23, 23, 1}, {1, 76, 230, 76, 1}, {1, 237, 1682, 1682, 237, 1}}
	for n, want := range falls {
		if row := impl.FallRow(n); !slices.Equal(row, want) {
			t.Errorf("FallRow(%d) = %v", n, row)
		}
	}
}

func TestPromise66AllSignedOrdersAreOrdersWithSigns(t *testing.T) {
	for n := range impl.MaxSignedList + 1 {
		all := impl.AllSigned(n)
		if len(all) != factorial(n)*allSigns(n) {
			t.Errorf("AllSigned(%d) are %d", n, len(all))
		}
		times := map[int]int{}
		for k, w := range all {
			if len(w) != n || !impl.ValidSigned(w) || slices.ContainsFunc(all[:k], func(v []int) bool { return slices.Equal(v, w) }) {
				t.Errorf("AllSigned(%d)[%d] = %v", n, k, w)
			}
			times[impl.RankOf(impl.SizesOf(w))]++
		}
		for rank := range factorial(n) {
			if times[rank] != allSigns(n) {
				t.Errorf("AllSigned(%d) has the order of rank %d with %d signs", n, rank, times[rank])
			}
		}
	}
}

func TestPromise67SignedCountsHaveKnownRows(t *testing.T) {
	for n := range impl.MaxSignedList + 1 {
		for _, name := range []string{"length", "flag"} {
			if row := signedRow(t, name, n); !slices.Equal(row, impl.DoubleRow(n)) {
				t.Errorf("SignedRow(%q, %d) = %v, DoubleRow = %v", name, n, row, impl.DoubleRow(n))
			}
		}
		if row := signedRow(t, "falls", n); !slices.Equal(row, impl.FallRow(n)) {
			t.Errorf("SignedRow(falls, %d) = %v, FallRow = %v", n, row, impl.FallRow(n))
		}
		var sets []int
		for k := range n + 1 {
			sets = append(sets, factorial(n)*setsOf(n, k))
		}
		if row := signedRow(t, "negatives", n); !slices.Equal(row, sets) {
			t.Errorf("SignedRow(negatives, %d) = %v, not %v", n, row, sets)
		}
	}
}

func TestPromise68DoubledProductsAreAllSignedOrders(t *testing.T) {
	for n := range impl.MaxSigned + 1 {
		row := impl.DoubleRow(n)
		if len(row) != n*n+1 || !fromBothEnds(row) || sum(row) != factorial(n)*allSigns(n) {
			t.Errorf("DoubleRow(%d) = %v", n, row)
		}
	}
}

func TestPromise69FallsAreAsManyAsRises(t *testing.T) {
	for n := range impl.MaxSigned + 1 {
		row := impl.FallRow(n)
		if len(row) != n+1 || !fromBothEnds(row) || sum(row) != factorial(n)*allSigns(n) {
			t.Errorf("FallRow(%d) = %v", n, row)
		}
	}
}
