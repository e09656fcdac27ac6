package tests

import (
	"slices"
	"testing"

	"loop.example/ordercounts/impl"
)

// orderPairs calls a function with all pairs of orders of at most MaxN values together.
func orderPairs(see func(p, q []int)) {
	for n := range impl.MaxN + 1 {
		for k := range impl.MaxN + 1 - n {
			seconds := ordersOf(k)
			for _, p := range ordersOf(n) {
				for _, q := range seconds {
					see(p, q)
				}
			}
		}
	}
}

// movedUp returns values, each greater by a number.
func movedUp(p []int, by int) []int {
	up := make([]int, len(p))
	for k, x := range p {
		up[k] = x + by
	}
	return up
}

func TestSumAndSkewOrders(t *testing.T) {
	orderPairs(func(p, q []int) {
		if r, ok := impl.SumOrders(p, q); !ok || !slices.Equal(r, slices.Concat(p, movedUp(q, len(p)))) {
			t.Fatalf("SumOrders(%v, %v) = %v, %v", p, q, r, ok)
		}
		if r, ok := impl.SkewOrders(p, q); !ok || !slices.Equal(r, slices.Concat(movedUp(p, len(q)), q)) {
			t.Fatalf("SkewOrders(%v, %v) = %v, %v", p, q, r, ok)
		}
	})
}

func TestSumAndSkewOrdersOfOtherNumbers(t *testing.T) {
	full, one, three, five := impl.RisingOrder(7), impl.RisingOrder(1), impl.RisingOrder(3), impl.RisingOrder(5)
	wrong := [][2][]int{{full, one}, {one, full}, {three, five}, {five, three}, {full, full}, {{0, 1}, {2, 3}}, {{1, 2}, {0}}}
	for _, p := range notOrders() {
		wrong = append(wrong, [2][]int{p, nil}, [2][]int{nil, p}, [2][]int{p, one}, [2][]int{one, p}, [2][]int{p, p})
	}
	for _, w := range wrong {
		if r, ok := impl.SumOrders(w[0], w[1]); ok || len(r) != 0 {
			t.Errorf("SumOrders(%v, %v) = %v, %v", w[0], w[1], r, ok)
		}
		if r, ok := impl.SkewOrders(w[0], w[1]); ok || len(r) != 0 {
			t.Errorf("SkewOrders(%v, %v) = %v, %v", w[0], w[1], r, ok)
		}
	}
}

func TestPromise17SumsAddCounts(t *testing.T) {
	orderPairs(func(p, q []int) {
		r, ok := impl.SumOrders(p, q)
		if !ok || len(r) != len(p)+len(q) || impl.InversionsOf(r) != impl.InversionsOf(p)+impl.InversionsOf(q) {
			t.Fatalf("SumOrders(%v, %v) = %v, %v", p, q, r, ok)
		}
		if len(impl.CirclesOf(r)) != len(impl.CirclesOf(p))+len(impl.CirclesOf(q)) {
			t.Fatalf("SumOrders(%v, %v) = %v has circles %v", p, q, r, impl.CirclesOf(r))
		}
		movedBehind := impl.MajorOf(q) + len(p)*len(impl.DescentsOf(q))
		if impl.MajorOf(r) != impl.MajorOf(p)+movedBehind {
			t.Fatalf("SumOrders(%v, %v) = %v has MajorOf %d", p, q, r, impl.MajorOf(r))
		}
	})
}

func TestPromise18SkewSumsAreOppositeSums(t *testing.T) {
	orderPairs(func(p, q []int) {
		skew, ok := impl.SkewOrders(p, q)
		opposites, also := impl.SumOrders(impl.OppositeOrder(p), impl.OppositeOrder(q))
		if !ok || !also || len(skew) != len(p)+len(q) || !slices.Equal(impl.OppositeOrder(skew), opposites) {
			t.Fatalf("SkewOrders(%v, %v) = %v, the opposites' sum %v", p, q, skew, opposites)
		}
		if impl.InversionsOf(skew) != impl.InversionsOf(p)+impl.InversionsOf(q)+len(p)*len(q) {
			t.Fatalf("SkewOrders(%v, %v) = %v has InversionsOf %d", p, q, skew, impl.InversionsOf(skew))
		}
	})
}
