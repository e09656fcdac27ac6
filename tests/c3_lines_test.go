package tests

import (
	"slices"
	"testing"

	"loop.example/ordercounts/impl"
)

// lineOf returns the circles of an order as a line, without the program's help.
func lineOf(p []int) []int {
	line := []int{}
	for greatest := range p {
		circle := []int{greatest}
		for x := p[greatest]; x != greatest; x = p[x] {
			circle = append(circle, x)
		}
		if greatest == slices.Max(circle) {
			line = append(line, circle...)
		}
	}
	return line
}

// twoOrders are an order and what a map makes of it.
type twoOrders struct{ from, to []int }

// checkBothWays checks a map and its way back.
func checkBothWays(t *testing.T, there, back func([]int) []int, orders []twoOrders) {
	t.Helper()
	for _, o := range orders {
		if to := there(o.from); !slices.Equal(to, o.to) {
			t.Errorf("of %v: %v, not %v", o.from, to, o.to)
		}
		if from := back(o.to); !slices.Equal(from, o.from) {
			t.Errorf("back of %v: %v, not %v", o.to, from, o.from)
		}
	}
}

func TestToLineAndFromLine(t *testing.T) {
	for _, p := range ordersUpTo(impl.MaxN) {
		line := lineOf(p)
		if !slices.Equal(impl.ToLine(p), line) {
			t.Fatalf("ToLine(%v) = %v, not %v", p, impl.ToLine(p), line)
		}
		if !slices.Equal(impl.FromLine(line), p) {
			t.Fatalf("FromLine(%v) = %v, not %v", line, impl.FromLine(line), p)
		}
	}
}

func TestLinesOfKnownOrders(t *testing.T) {
	checkBothWays(t, impl.ToLine, impl.FromLine, []twoOrders{
		{nil, nil},
		{[]int{}, []int{}},
		{[]int{0}, []int{0}},
		{[]int{0, 1}, []int{0, 1}},
		{[]int{1, 0}, []int{1, 0}},
		{[]int{0, 1, 2, 3}, []int{0, 1, 2, 3}},
		{[]int{3, 2, 1, 0}, []int{2, 1, 3, 0}},
		{[]int{2, 1, 4, 3, 0}, []int{1, 3, 4, 0, 2}},
		{[]int{0, 5, 2, 6, 1, 4, 3}, []int{0, 2, 5, 4, 1, 6, 3}},
	})
}

func TestLinesOfOneCircle(t *testing.T) {
	checkBothWays(t, impl.ToLine, impl.FromLine, []twoOrders{
		{[]int{1, 2, 0}, []int{2, 0, 1}},
		{[]int{2, 0, 1}, []int{2, 1, 0}},
		{[]int{2, 3, 1, 0}, []int{3, 0, 2, 1}},
		{[]int{1, 2, 3, 4, 5, 6, 0}, []int{6, 0, 1, 2, 3, 4, 5}},
		{[]int{6, 0, 1, 2, 3, 4, 5}, []int{6, 5, 4, 3, 2, 1, 0}},
	})
	for _, line := range ordersUpTo(impl.MaxN) {
		beginsWithGreatest := len(line) > 0 && line[0] == len(line)-1
		if oneCircle := len(impl.CirclesOf(impl.FromLine(line))) == 1; oneCircle != beginsWithGreatest {
			t.Fatalf("FromLine(%v) = %v", line, impl.FromLine(line))
		}
	}
}

func TestExceedMap(t *testing.T) {
	cases := []struct{ w, p []int }{
		{nil, nil},
		{[]int{0}, []int{0}},
		{[]int{0, 1, 2}, []int{0, 1, 2}},
		{[]int{2, 0, 1}, []int{2, 0, 1}},
		{[]int{2, 1, 0}, []int{1, 2, 0}},
		{[]int{1, 3, 4, 0, 2}, []int{4, 1, 0, 3, 2}},
	}
	for _, c := range cases {
		if p := impl.ExceedMap(c.w); !slices.Equal(p, c.p) {
			t.Errorf("ExceedMap(%v) = %v, not %v", c.w, p, c.p)
		}
	}
	for _, p := range ordersUpTo(impl.MaxN) {
		above := impl.ExceedMap(lineOf(p))
		if len(above) != len(p) {
			t.Fatalf("ExceedMap(%v) = %v", lineOf(p), above)
		}
		for k, x := range p {
			if above[x] != k {
				t.Fatalf("ExceedMap(%v) = %v, not the inverse of %v", lineOf(p), above, p)
			}
		}
	}
}

func TestLinesOfOtherNumbers(t *testing.T) {
	for _, p := range notOrders() {
		for i, list := range [][]int{impl.ToLine(p), impl.FromLine(p), impl.ExceedMap(p)} {
			if len(list) != 0 {
				t.Errorf("function %d of %v = %v", i, p, list)
			}
		}
	}
}

func TestPromise36LinesAreReadBack(t *testing.T) {
	for _, p := range ordersUpTo(impl.MaxN) {
		line := impl.ToLine(p)
		if !slices.Equal(impl.FromLine(line), p) {
			t.Fatalf("ToLine(%v) = %v, FromLine of it = %v", p, line, impl.FromLine(line))
		}
		if len(line) != len(p) || len(impl.RecordsOf(line)) != len(impl.CirclesOf(p)) {
			t.Fatalf("ToLine(%v) = %v, with records %v and circles %v", p, line, impl.RecordsOf(line), impl.CirclesOf(p))
		}
	}
}

func TestPromise37CirclesAreWrittenBack(t *testing.T) {
	for _, line := range ordersUpTo(impl.MaxN) {
		p := impl.FromLine(line)
		if !slices.Equal(impl.ToLine(p), line) {
			t.Fatalf("FromLine(%v) = %v, ToLine of it = %v", line, p, impl.ToLine(p))
		}
		below := 0
		for k, x := range p {
			if x < k {
				below++
			}
		}
		if len(p) != len(line) || len(impl.DescentsOf(line)) != below {
			t.Fatalf("FromLine(%v) = %v, with %d values below their places and descents %v", line, p, below, impl.DescentsOf(line))
		}
	}
}

func TestPromise44WhereAnOrderFallsItsMapIsAbove(t *testing.T) {
	for _, w := range ordersUpTo(impl.MaxN) {
		p := impl.ExceedMap(w)
		if len(p) != len(w) || !impl.ValidOrder(p) {
			t.Fatalf("ExceedMap(%v) = %v", w, p)
		}
		if len(impl.AboveOf(p)) != len(impl.DescentsOf(w)) || len(impl.CirclesOf(p)) != len(impl.RecordsOf(w)) {
			t.Fatalf("ExceedMap(%v) = %v, above at %v, with circles %v", w, p, impl.AboveOf(p), impl.CirclesOf(p))
		}
	}
}
