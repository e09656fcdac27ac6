package tests

import (
	"math"
	"slices"
	"testing"

	"loop.example/ordercounts/impl"
)

// wordRow returns the row of a content that has one.
func wordRow(t *testing.T, c []int, byMajor bool) []int {
	t.Helper()
	row, ok := impl.WordRow(c, byMajor)
	if !ok {
		t.Fatalf("WordRow(%v, %v) = %v, false", c, byMajor, row)
	}
	return row
}

// wordRowOrNone returns the row by inversions of a content, or none.
func wordRowOrNone(c []int) []int {
	row, _ := impl.WordRow(c, false)
	return row
}

// multiplied returns what MultiplyRows makes of rows, one after the other.
func multiplied(rows ...[]int) []int {
	product := []int{1}
	for _, row := range rows {
		product = impl.MultiplyRows(product, row)
	}
	return product
}

// someRows returns rows of different lengths, with coefficients of both signs, and with 0 at both ends.
func someRows() [][]int {
	most := slices.Repeat([]int{impl.MaxCoefficient}, impl.MaxRow)
	least := slices.Repeat([]int{-impl.MaxCoefficient}, impl.MaxRow)
	return [][]int{{0}, {1}, {-1}, {0, 0}, {0, 1}, {1, 0}, {1, 1}, {1, -1}, {3, 0, -2}, {0, 5, 0, 7, 0}, {-4, 6, 1, 1, 9, -8}, {impl.MaxCoefficient}, {-impl.MaxCoefficient, 2}, most, least, make([]int, impl.MaxRow)}
}

// notRows returns lists of numbers that are no rows.
func notRows() [][]int {
	return [][]int{nil, {}, {impl.MaxCoefficient + 1}, {-impl.MaxCoefficient - 1}, {1, impl.MaxCoefficient + 1}, {-impl.MaxCoefficient - 1, 0}, {0, math.MinInt, 0}, {math.MaxInt}, make([]int, impl.MaxRow+1), make([]int, 1000)}
}

func TestBinomialRow(t *testing.T) {
	for n := range impl.MaxN + 1 {
		for k := range n + 1 {
			row := impl.BinomialRow(n, k)
			if want := rowFor(wordsWith([]int{k, n - k, 0, 0}), inversionsAmong); !slices.Equal(row, want) || len(row) != k*(n-k)+1 {
				t.Errorf("BinomialRow(%d, %d) = %v, not %v", n, k, row, want)
			}
		}
	}
}

func TestKnownBinomialRows(t *testing.T) {
	cases := []struct {
		n, k int
		row  []int
	}{
		{0, 0, []int{1}},
		{1, 0, []int{1}},
		{1, 1, []int{1}},
		{3, 1, []int{1, 1, 1}},
		{4, 2, []int{1, 1, 2, 1, 1}},
		{5, 0, []int{1}},
		{5, 2, []int{1, 1, 2, 2, 2, 1, 1}},
		{7, 0, []int{1}},
		{7, 7, []int{1}},
		{7, 3, []int{1, 1, 2, 3, 4, 4, 5, 4, 4, 3, 2, 1, 1}},
	}
	for _, c := range cases {
		if row := impl.BinomialRow(c.n, c.k); !slices.Equal(row, c.row) {
			t.Errorf("BinomialRow(%d, %d) = %v, not %v", c.n, c.k, row, c.row)
		}
	}
}

func TestBinomialRowOfOtherArguments(t *testing.T) {
	numbers := []int{math.MinInt, -8, -1, 0, 1, 3, impl.MaxN, impl.MaxN + 1, 9, math.MaxInt}
	for _, n := range numbers {
		for _, k := range append(numbers, n-1, n+1) {
			fits := n >= 0 && n <= impl.MaxN && k >= 0 && k <= n
			if row := impl.BinomialRow(n, k); len(row) > 0 != fits {
				t.Errorf("BinomialRow(%d, %d) = %v", n, k, row)
			}
		}
	}
}

func TestManyRow(t *testing.T) {
	rows := map[[4]int][]int{}
	for _, w := range wordsUpTo(impl.MaxN) {
		c, number := [4]int(timesIn(w)), inversionsAmong(w)
		for len(rows[c]) <= number {
			rows[c] = append(rows[c], 0)
		}
		rows[c][number]++
	}
	for _, c := range contentsUpTo(impl.MaxN) {
		if row := impl.ManyRow(c); !slices.Equal(row, rows[[4]int(c)]) {
			t.Errorf("ManyRow(%v) = %v, not %v", c, row, rows[[4]int(c)])
		}
	}
}

func TestKnownManyRows(t *testing.T) {
	cases := []struct{ c, row []int }{
		{[]int{0, 0, 0, 0}, []int{1}},
		{[]int{0, 3, 0, 0}, []int{1}},
		{[]int{0, 0, 1, 2}, []int{1, 1, 1}},
		{[]int{1, 1, 1, 0}, []int{1, 2, 2, 1}},
		{[]int{2, 1, 1, 0}, []int{1, 2, 3, 3, 2, 1}},
		{[]int{1, 1, 1, 1}, []int{1, 3, 5, 6, 5, 3, 1}},
	}
	for _, c := range cases {
		if row := impl.ManyRow(c.c); !slices.Equal(row, c.row) {
			t.Errorf("ManyRow(%v) = %v, not %v", c.c, row, c.row)
		}
	}
}

func TestWordRow(t *testing.T) {
	for _, c := range contentsUpTo(impl.MaxList) {
		all := wordsWith(c)
		if row := wordRow(t, c, false); !slices.Equal(row, rowFor(all, inversionsAmong)) {
			t.Errorf("WordRow(%v, false) = %v", c, row)
		}
		if row := wordRow(t, c, true); !slices.Equal(row, rowFor(all, majorAmong)) {
			t.Errorf("WordRow(%v, true) = %v", c, row)
		}
	}
	if row := wordRow(t, []int{0, 0, 0, 0}, true); !slices.Equal(row, []int{1}) {
		t.Errorf("WordRow of nothing = %v", row)
	}
}

func TestMultiplyRows(t *testing.T) {
	for _, a := range someRows() {
		for _, b := range someRows() {
			if row := impl.MultiplyRows(a, b); !slices.Equal(row, rowsTimes(a, b)) {
				t.Errorf("MultiplyRows(%v, %v) = %v", a, b, row)
			}
		}
	}
}

func TestKnownProductsOfRows(t *testing.T) {
	cases := []struct{ a, b, row []int }{
		{[]int{1}, []int{1}, []int{1}},
		{[]int{0}, []int{0}, []int{0}},
		{[]int{1, 1}, []int{1, -1}, []int{1, 0, -1}},
		{[]int{1, 2, 3}, []int{0}, []int{0, 0, 0}},
		{[]int{1, 0}, []int{0, 1, 0}, []int{0, 1, 0, 0}},
		{[]int{1000000}, []int{-1000000}, []int{-1000000000000}},
	}
	for _, c := range cases {
		if row := impl.MultiplyRows(c.a, c.b); !slices.Equal(row, c.row) {
			t.Errorf("MultiplyRows(%v, %v) = %v, not %v", c.a, c.b, row, c.row)
		}
	}
}

func TestMultiplyRowsOfOtherNumbers(t *testing.T) {
	for _, none := range notRows() {
		for _, row := range append(someRows(), notRows()...) {
			if product := impl.MultiplyRows(none, row); len(product) != 0 {
				t.Errorf("MultiplyRows(%v, %v) = %v", none, row, product)
			}
			if product := impl.MultiplyRows(row, none); len(product) != 0 {
				t.Errorf("MultiplyRows(%v, %v) = %v", row, none, product)
			}
		}
	}
}

func TestPromise34ProductsAreAllOrders(t *testing.T) {
	for n := range impl.MaxN + 1 {
		row := impl.ProductRow(n)
		if len(row) != allPairs(n)+1 || !fromBothEnds(row) || sum(row) != factorial(n) {
			t.Errorf("ProductRow(%d) = %v", n, row)
		}
		if n == 0 {
			continue
		}
		ones := slices.Repeat([]int{1}, n)
		if product := impl.MultiplyRows(impl.ProductRow(n-1), ones); !slices.Equal(product, row) {
			t.Errorf("ProductRow(%d) = %v, MultiplyRows of that of one less and ones = %v", n, row, product)
		}
	}
}

func TestPromise52WordsOfTwoLettersAreProducts(t *testing.T) {
	for n := range impl.MaxN + 1 {
		for k := range n + 1 {
			row := impl.BinomialRow(n, k)
			if product := multiplied(row, impl.ProductRow(k), impl.ProductRow(n-k)); !slices.Equal(product, impl.ProductRow(n)) {
				t.Errorf("BinomialRow(%d, %d) = %v, times both %v", n, k, row, product)
			}
			if !fromBothEnds(row) || !slices.Equal(row, impl.BinomialRow(n, n-k)) {
				t.Errorf("BinomialRow(%d, %d) = %v, for the other letter %v", n, k, row, impl.BinomialRow(n, n-k))
			}
		}
	}
}

func TestPromise53RowsOfContentsAreQuotients(t *testing.T) {
	for _, c := range contentsUpTo(impl.MaxN) {
		row := impl.ManyRow(c)
		factors := [][]int{row}
		for _, times := range c {
			factors = append(factors, impl.ProductRow(times))
		}
		if product := multiplied(factors...); !slices.Equal(product, impl.ProductRow(sum(c))) {
			t.Errorf("ManyRow(%v) = %v, times that of each %v", c, row, product)
		}
		if !fromBothEnds(row) {
			t.Errorf("ManyRow(%v) = %v", c, row)
		}
	}
}

func TestPromise54WordsHaveOneRowForBothCounts(t *testing.T) {
	for _, c := range contentsUpTo(impl.MaxList) {
		for _, byMajor := range []bool{false, true} {
			if row := wordRow(t, c, byMajor); len(row) == 0 || !slices.Equal(row, impl.ManyRow(c)) {
				t.Errorf("WordRow(%v, %v) = %v, ManyRow = %v", c, byMajor, row, impl.ManyRow(c))
			}
		}
	}
}

func TestPromise55ProductsOfRowsGoBothWays(t *testing.T) {
	for _, a := range someRows() {
		for _, b := range someRows() {
			row := impl.MultiplyRows(a, b)
			if len(row) != len(a)+len(b)-1 || !slices.Equal(row, impl.MultiplyRows(b, a)) || sum(row) != sum(a)*sum(b) {
				t.Errorf("MultiplyRows(%v, %v) = %v, the other way %v", a, b, row, impl.MultiplyRows(b, a))
			}
		}
	}
}
