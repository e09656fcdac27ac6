package tests

import (
	"slices"
	"testing"

	"loop.example/ordercounts/impl"
)

// piecesOf returns the pieces of values cut by x, without the program's help.
func piecesOf(values []int, x int) [][]int {
	var pieces [][]int
	var piece []int
	for _, y := range values {
		piece = append(piece, y)
		if (y < x) == (values[len(values)-1] < x) {
			pieces = append(pieces, piece)
			piece = nil
		}
	}
	return pieces
}

// foataOf returns what becomes of an order whose values come one after the other.
func foataOf(p []int) []int {
	values := []int{}
	for _, x := range p {
		var next []int
		for _, piece := range piecesOf(values, x) {
			last := len(piece) - 1
			next = append(next, piece[last])
			next = append(next, piece[:last]...)
		}
		values = append(next, x)
	}
	return values
}

func TestFoataMapAndBack(t *testing.T) {
	for _, p := range ordersUpTo(impl.MaxN) {
		mapped := foataOf(p)
		if !slices.Equal(impl.FoataMap(p), mapped) {
			t.Fatalf("FoataMap(%v) = %v, not %v", p, impl.FoataMap(p), mapped)
		}
		if !slices.Equal(impl.FoataBack(mapped), p) {
			t.Fatalf("FoataBack(%v) = %v, not %v", mapped, impl.FoataBack(mapped), p)
		}
	}
}

func TestFoataMapOfKnownOrders(t *testing.T) {
	checkBothWays(t, impl.FoataMap, impl.FoataBack, []twoOrders{
		{nil, nil},
		{[]int{}, []int{}},
		{[]int{0}, []int{0}},
		{[]int{1, 0}, []int{1, 0}},
		{[]int{0, 2, 1}, []int{2, 0, 1}},
		{[]int{2, 0, 1}, []int{0, 2, 1}},
		{[]int{1, 0, 2}, []int{1, 0, 2}},
		{[]int{3, 0, 2, 1}, []int{3, 0, 2, 1}},
		// Here 3 turns 4 6 1 into 1 4 6, then 5 turns 6 3 into 3 6, and 2 turns 4 3 6 5 0 into 0 4 3 6 5.
		{[]int{4, 6, 1, 3, 5, 0, 2}, []int{1, 0, 4, 3, 6, 5, 2}},
	})
}

func TestFoataMapOfPiecesOfOneValue(t *testing.T) {
	for n := range impl.MaxN + 1 {
		rising := make([]int, n)
		falling := make([]int, n)
		for k := range n {
			rising[k], falling[k] = k, n-1-k
		}
		for _, p := range [][]int{rising, falling} {
			if !slices.Equal(impl.FoataMap(p), p) || !slices.Equal(impl.FoataBack(p), p) {
				t.Errorf("of %v: FoataMap = %v, FoataBack = %v", p, impl.FoataMap(p), impl.FoataBack(p))
			}
		}
	}
}

func TestFoataMapOfOnePiece(t *testing.T) {
	// Only the last value is on its side of the value behind it, so that all values ahead are one piece.
	checkBothWays(t, impl.FoataMap, impl.FoataBack, []twoOrders{
		{[]int{2, 3, 4, 0, 1}, []int{0, 2, 3, 4, 1}},
		{[]int{0, 1, 2, 4, 3}, []int{4, 0, 1, 2, 3}},
	})
}

func TestFoataMapOfOtherNumbers(t *testing.T) {
	for _, p := range notOrders() {
		if mapped, back := impl.FoataMap(p), impl.FoataBack(p); len(mapped) != 0 || len(back) != 0 {
			t.Errorf("of %v: FoataMap = %v, FoataBack = %v", p, mapped, back)
		}
	}
}

func TestPromise38MajorIndicesBecomeInversions(t *testing.T) {
	for _, p := range ordersUpTo(impl.MaxN) {
		mapped := impl.FoataMap(p)
		if len(mapped) != len(p) || !impl.ValidOrder(mapped) || impl.InversionsOf(mapped) != impl.MajorOf(p) {
			t.Fatalf("FoataMap(%v) = %v, with %d inversions, not %d", p, mapped, impl.InversionsOf(mapped), impl.MajorOf(p))
		}
		falls, before := impl.DescentsOf(impl.InverseOrder(mapped)), impl.DescentsOf(impl.InverseOrder(p))
		if !slices.Equal(falls, before) {
			t.Fatalf("FoataMap(%v) = %v, whose inverse falls at %v, not %v", p, mapped, falls, before)
		}
		if len(p) > 0 && mapped[len(p)-1] != p[len(p)-1] {
			t.Fatalf("FoataMap(%v) = %v", p, mapped)
		}
	}
}

func TestPromise39InversionsBecomeMajorIndices(t *testing.T) {
	for _, p := range ordersUpTo(impl.MaxN) {
		back := impl.FoataBack(p)
		if len(back) != len(p) || !impl.ValidOrder(back) || impl.MajorOf(back) != impl.InversionsOf(p) {
			t.Fatalf("FoataBack(%v) = %v, with MajorOf %d, not %d", p, back, impl.MajorOf(back), impl.InversionsOf(p))
		}
		if !slices.Equal(impl.FoataMap(back), p) {
			t.Fatalf("FoataBack(%v) = %v, FoataMap of it = %v", p, back, impl.FoataMap(back))
		}
	}
}
