package tests

import (
	"math"
	"slices"
	"testing"

	"loop.example/ordercounts/impl"
)

// rowOf returns the row of a name that has one.
func rowOf(t *testing.T, name string, n int) []int {
	t.Helper()
	row, ok := impl.RowOf(name, n)
	if !ok {
		t.Fatalf("RowOf(%q, %d) = %v, false", name, n, row)
	}
	return row
}

// pairRows returns the rows of two names that have some.
func pairRows(t *testing.T, a, b string, n int) [][]int {
	t.Helper()
	rows, ok := impl.PairRows(a, b, n)
	if !ok {
		t.Fatalf("PairRows(%q, %q, %d) = %v, false", a, b, n, rows)
	}
	return rows
}

// countOf returns the number of a name that is one.
func countOf(t *testing.T, name string, p []int) int {
	t.Helper()
	x, ok := impl.CountOf(name, p)
	if !ok {
		t.Fatalf("CountOf(%q, %v) = %d, false", name, p, x)
	}
	return x
}

// equalRows reports whether rows of rows are the same.
func equalRows(a, b [][]int) bool {
	return slices.EqualFunc(a, b, slices.Equal)
}

// turnedRows returns the columns of rows as rows.
func turnedRows(rows [][]int) [][]int {
	turned := make([][]int, len(rows[0]))
	for _, row := range rows {
		for k, x := range row {
			turned[k] = append(turned[k], x)
		}
	}
	return turned
}

// fromBothEnds reports whether a row is the same from its other end.
func fromBothEnds(row []int) bool {
	other := slices.Clone(row)
	slices.Reverse(other)
	return slices.Equal(row, other)
}

func TestRowOf(t *testing.T) {
	for n := range impl.MaxList + 1 {
		for _, name := range countNames() {
			var want []int
			for _, p := range ordersOf(n) {
				x := countOf(t, name, p)
				for len(want) <= x {
					want = append(want, 0)
				}
				want[x]++
			}
			if row := rowOf(t, name, n); !slices.Equal(row, want) {
				t.Errorf("RowOf(%q, %d) = %v, not %v", name, n, row, want)
			}
		}
	}
}

func TestPairRows(t *testing.T) {
	for n := range impl.MaxList + 1 {
		for _, a := range countNames() {
			for _, b := range countNames() {
				want := make([][]int, len(rowOf(t, a, n)))
				for x := range want {
					want[x] = make([]int, len(rowOf(t, b, n)))
				}
				for _, p := range ordersOf(n) {
					want[countOf(t, a, p)][countOf(t, b, p)]++
				}
				if rows := pairRows(t, a, b, n); !equalRows(rows, want) {
					t.Errorf("PairRows(%q, %q, %d) = %v, not %v", a, b, n, rows, want)
				}
			}
		}
	}
}

func TestRowsOfNoValues(t *testing.T) {
	for _, a := range countNames() {
		if row := rowOf(t, a, 0); !slices.Equal(row, []int{1}) {
			t.Errorf("RowOf(%q, 0) = %v", a, row)
		}
		for _, b := range countNames() {
			if rows := pairRows(t, a, b, 0); !equalRows(rows, [][]int{{1}}) {
				t.Errorf("PairRows(%q, %q, 0) = %v", a, b, rows)
			}
		}
	}
	for i, row := range [][]int{impl.EulerRow(0), impl.ProductRow(0), impl.CircleRow(0)} {
		if !slices.Equal(row, []int{1}) {
			t.Errorf("row %d of no values = %v", i, row)
		}
	}
}

func TestRowsOfOneValue(t *testing.T) {
	for _, name := range countNames() {
		want := []int{1}
		if name == "records" || name == "circles" {
			want = []int{0, 1}
		}
		if row := rowOf(t, name, 1); !slices.Equal(row, want) {
			t.Errorf("RowOf(%q, 1) = %v", name, row)
		}
	}
	if rows := pairRows(t, "circles", "major", 1); !equalRows(rows, [][]int{{0}, {1}}) {
		t.Errorf("PairRows of circles and major of one value = %v", rows)
	}
	if rows := pairRows(t, "major", "circles", 1); !equalRows(rows, [][]int{{0, 1}}) {
		t.Errorf("PairRows of major and circles of one value = %v", rows)
	}
	if !slices.Equal(impl.EulerRow(1), []int{1}) || !slices.Equal(impl.ProductRow(1), []int{1}) || !slices.Equal(impl.CircleRow(1), []int{0, 1}) {
		t.Errorf("rows of one value = %v, %v, %v", impl.EulerRow(1), impl.ProductRow(1), impl.CircleRow(1))
	}
}

func TestRowsOfTheMostValues(t *testing.T) {
	if row := impl.EulerRow(7); !slices.Equal(row, []int{1, 120, 1191, 2416, 1191, 120, 1}) {
		t.Errorf("EulerRow(7) = %v", row)
	}
	if row := impl.CircleRow(7); !slices.Equal(row, []int{0, 720, 1764, 1624, 735, 175, 21, 1}) {
		t.Errorf("CircleRow(7) = %v", row)
	}
	if row := impl.ProductRow(7); !slices.Equal(row, []int{1, 6, 20, 49, 98, 169, 259, 359, 455, 531, 573, 573, 531, 455, 359, 259, 169, 98, 49, 20, 6, 1}) {
		t.Errorf("ProductRow(7) = %v", row)
	}
}

func TestRowsByCounting(t *testing.T) {
	for n := range impl.MaxN + 1 {
		descents, inversions, circles := make([]int, max(n, 1)), make([]int, allPairs(n)+1), make([]int, n+1)
		for _, p := range ordersOf(n) {
			descents[countOf(t, "descents", p)]++
			inversions[inversionsAmong(p)]++
			circles[countOf(t, "circles", p)]++
		}
		if !slices.Equal(impl.EulerRow(n), descents) || !slices.Equal(impl.ProductRow(n), inversions) || !slices.Equal(impl.CircleRow(n), circles) {
			t.Errorf("rows of %d values = %v, %v, %v", n, impl.EulerRow(n), impl.ProductRow(n), impl.CircleRow(n))
		}
	}
}

func TestRowsOfOtherArguments(t *testing.T) {
	for _, n := range []int{-1, impl.MaxN + 1, math.MinInt, math.MaxInt} {
		for i, row := range [][]int{impl.EulerRow(n), impl.ProductRow(n), impl.CircleRow(n)} {
			if len(row) != 0 {
				t.Errorf("row %d of %d values = %v", i, n, row)
			}
		}
	}
	for _, n := range []int{-1, impl.MaxList + 1, impl.MaxN, math.MinInt, math.MaxInt} {
		for _, name := range countNames() {
			if row, ok := impl.RowOf(name, n); ok || len(row) != 0 {
				t.Errorf("RowOf(%q, %d) = %v, %v", name, n, row, ok)
			}
			if rows, ok := impl.PairRows(name, "major", n); ok || len(rows) != 0 {
				t.Errorf("PairRows(%q, major, %d) = %v, %v", name, n, rows, ok)
			}
		}
	}
}

func TestRowsOfOtherNames(t *testing.T) {
	for _, none := range notNames() {
		for _, n := range []int{-1, 0, 1, 3, impl.MaxList, impl.MaxList + 1} {
			if row, ok := impl.RowOf(none, n); ok || len(row) != 0 {
				t.Errorf("RowOf(%q, %d) = %v, %v", none, n, row, ok)
			}
			for _, pair := range [][2]string{{none, "major"}, {"major", none}, {none, none}} {
				if rows, ok := impl.PairRows(pair[0], pair[1], n); ok || len(rows) != 0 {
					t.Errorf("PairRows(%q, %q, %d) = %v, %v", pair[0], pair[1], n, rows, ok)
				}
			}
		}
	}
}

func TestPromise29CountsHaveKnownRows(t *testing.T) {
	for n := range impl.MaxList + 1 {
		known := map[string][]int{
			"inversions": impl.ProductRow(n),
			"major":      impl.ProductRow(n),
			"denert":     impl.ProductRow(n),
			"descents":   impl.EulerRow(n),
			"above":      impl.EulerRow(n),
			"records":    impl.CircleRow(n),
			"circles":    impl.CircleRow(n),
			"crossings":  rowOf(t, "nestings", n),
		}
		for name, row := range known {
			if !slices.Equal(rowOf(t, name, n), row) {
				t.Errorf("RowOf(%q, %d) = %v, not %v", name, n, rowOf(t, name, n), row)
			}
		}
	}
}

func TestPromise30TwoCountsGoTogether(t *testing.T) {
	for n := range impl.MaxList + 1 {
		for _, a := range countNames() {
			for _, b := range countNames() {
				rows := pairRows(t, a, b, n)
				if !equalRows(turnedRows(rows), pairRows(t, b, a, n)) {
					t.Errorf("PairRows(%q, %q, %d) = %v, exchanged %v", a, b, n, rows, pairRows(t, b, a, n))
				}
				var sums []int
				for _, row := range rows {
					sums = append(sums, sum(row))
				}
				if !slices.Equal(sums, rowOf(t, a, n)) {
					t.Errorf("PairRows(%q, %q, %d) = %v, of sums %v", a, b, n, rows, sums)
				}
			}
		}
	}
}

func TestPromise31DescentsAndMajorGoAsAboveAndDenert(t *testing.T) {
	for n := range impl.MaxList + 1 {
		falls, above := pairRows(t, "descents", "major", n), pairRows(t, "above", "denert", n)
		if !equalRows(falls, above) {
			t.Errorf("PairRows of descents and major of %d values = %v, of above and denert %v", n, falls, above)
		}
	}
}

func TestPromise32SomeCountsMayBeExchanged(t *testing.T) {
	for n := range impl.MaxList + 1 {
		for _, pair := range [][2]string{{"inversions", "major"}, {"crossings", "nestings"}} {
			rows := pairRows(t, pair[0], pair[1], n)
			if !equalRows(turnedRows(rows), rows) || !equalRows(pairRows(t, pair[1], pair[0], n), rows) {
				t.Errorf("PairRows(%q, %q, %d) = %v", pair[0], pair[1], n, rows)
			}
		}
	}
}

func TestPromise33DescentsAreAsManyAsRises(t *testing.T) {
	for n := range impl.MaxN + 1 {
		row := impl.EulerRow(n)
		if len(row) != max(n, 1) || !fromBothEnds(row) || sum(row) != factorial(n) {
			t.Errorf("EulerRow(%d) = %v", n, row)
		}
	}
}

func TestPromise35CirclesAreAllOrders(t *testing.T) {
	for n := range impl.MaxN + 1 {
		row := impl.CircleRow(n)
		if len(row) != n+1 || sum(row) != factorial(n) {
			t.Errorf("CircleRow(%d) = %v", n, row)
		}
		if n > 0 && row[1] != factorial(n-1) {
			t.Errorf("CircleRow(%d) = %v", n, row)
		}
	}
}
