package tests

import (
	"slices"
	"testing"

	"loop.example/ordercounts/impl"
)

func TestLimitsOfOrders(t *testing.T) {
	if impl.MaxN != 7 || impl.MaxList != 5 {
		t.Errorf("MaxN, MaxList = %d, %d", impl.MaxN, impl.MaxList)
	}
}

func TestValidOrderOfOrders(t *testing.T) {
	if !impl.ValidOrder(nil) || !impl.ValidOrder([]int{}) || !impl.ValidOrder([]int{0}) {
		t.Error("no values and one value are orders")
	}
	for _, p := range ordersUpTo(impl.MaxN) {
		if !impl.ValidOrder(p) {
			t.Fatalf("ValidOrder(%v) = false", p)
		}
	}
}

func TestValidOrderOfOtherNumbers(t *testing.T) {
	for _, p := range notOrders() {
		if impl.ValidOrder(p) {
			t.Errorf("ValidOrder(%v) = true", p)
		}
	}
	for n := range 5 {
		for _, p := range listsOf(n, -1, n) {
			sorted := slices.Sorted(slices.Values(p))
			if impl.ValidOrder(p) != rises(sorted) {
				t.Fatalf("ValidOrder(%v) = %v", p, !rises(sorted))
			}
		}
	}
}

func TestRisingOrder(t *testing.T) {
	for n := range impl.MaxN + 1 {
		if p := impl.RisingOrder(n); len(p) != n || !rises(p) {
			t.Errorf("RisingOrder(%d) = %v", n, p)
		}
	}
	for _, n := range []int{-1, impl.MaxN + 1, -1 << 63, 1<<63 - 1} {
		if p := impl.RisingOrder(n); len(p) != 0 {
			t.Errorf("RisingOrder(%d) = %v", n, p)
		}
	}
}

func TestInverseTurnOpposite(t *testing.T) {
	for _, p := range ordersUpTo(impl.MaxN) {
		inverse, turned, opposite := impl.InverseOrder(p), impl.TurnOrder(p), impl.OppositeOrder(p)
		if len(inverse) != len(p) || len(turned) != len(p) || len(opposite) != len(p) {
			t.Fatalf("of %v: %v, %v, %v", p, inverse, turned, opposite)
		}
		for k, x := range p {
			if inverse[x] != k || turned[len(p)-1-k] != x || opposite[k]+x != len(p)-1 {
				t.Fatalf("of %v: %v, %v, %v", p, inverse, turned, opposite)
			}
		}
	}
}

func TestMultiplyOrders(t *testing.T) {
	for n := range impl.MaxList {
		for _, p := range ordersOf(n) {
			for _, q := range ordersOf(n) {
				r := product(t, p, q)
				for k := range r {
					if r[k] != p[q[k]] {
						t.Fatalf("MultiplyOrders(%v, %v) = %v", p, q, r)
					}
				}
			}
		}
	}
	p, q := []int{1, 2, 3, 4, 5, 6, 0}, []int{1, 0, 2, 3, 4, 5, 6}
	if r := product(t, p, q); !slices.Equal(r, []int{2, 1, 3, 4, 5, 6, 0}) {
		t.Errorf("MultiplyOrders of the most values = %v", r)
	}
}

func TestMultiplyOrdersOfOtherNumbers(t *testing.T) {
	wrong := [][2][]int{{{0, 1}, {0}}, {{0}, {0, 1}}, {{}, {0}}, {{0}, nil}, {{0, 1}, {1, 2}}, {{1, 2}, {0, 1}}, {{0, 1}, {0, 0}}, {{2}, {2}}}
	for _, p := range notOrders() {
		wrong = append(wrong, [2][]int{p, p}, [2][]int{p, nil}, [2][]int{nil, p})
		if len(p) <= impl.MaxN {
			rising := impl.RisingOrder(len(p))
			wrong = append(wrong, [2][]int{p, rising}, [2][]int{rising, p})
		}
	}
	for _, w := range wrong {
		if r, ok := impl.MultiplyOrders(w[0], w[1]); ok || len(r) != 0 {
			t.Errorf("MultiplyOrders(%v, %v) = %v, %v", w[0], w[1], r, ok)
		}
	}
}

func TestPromise1OrdersHaveInverses(t *testing.T) {
	for _, p := range ordersUpTo(impl.MaxN) {
		inverse := impl.InverseOrder(p)
		if !impl.ValidOrder(inverse) || !rises(product(t, p, inverse)) || !rises(product(t, inverse, p)) {
			t.Fatalf("InverseOrder(%v) = %v", p, inverse)
		}
	}
}

func TestPromise2RisingOrdersCountNothing(t *testing.T) {
	for n := range impl.MaxN + 1 {
		p := impl.RisingOrder(n)
		if len(p) != n || impl.InversionsOf(p) != 0 || len(impl.DescentsOf(p)) != 0 || !slices.Equal(impl.InverseOrder(p), p) {
			t.Errorf("RisingOrder(%d) = %v", n, p)
		}
	}
}

func TestPromise4TurnedOrdersHaveTheOtherPairs(t *testing.T) {
	for _, p := range ordersUpTo(impl.MaxN) {
		turned := impl.TurnOrder(p)
		if !slices.Equal(impl.TurnOrder(turned), p) {
			t.Fatalf("TurnOrder twice of %v = %v", p, impl.TurnOrder(turned))
		}
		if impl.InversionsOf(p)+impl.InversionsOf(turned) != allPairs(len(p)) {
			t.Fatalf("InversionsOf(%v) = %d, turned %d", p, impl.InversionsOf(p), impl.InversionsOf(turned))
		}
	}
}

func TestPromise5OppositeOrdersHaveTheOtherDescents(t *testing.T) {
	for _, p := range ordersUpTo(impl.MaxN) {
		opposite := impl.OppositeOrder(p)
		if !slices.Equal(impl.OppositeOrder(opposite), p) {
			t.Fatalf("OppositeOrder twice of %v = %v", p, impl.OppositeOrder(opposite))
		}
		both := slices.Concat(impl.DescentsOf(p), impl.DescentsOf(opposite))
		slices.Sort(both)
		if len(both) != max(len(p)-1, 0) || !rises(both) {
			t.Fatalf("DescentsOf(%v) and of the opposite order = %v", p, both)
		}
	}
}

func TestPromise6SignsAreMultiplied(t *testing.T) {
	for n := range impl.MaxList + 1 {
		all := ordersOf(n)
		for _, p := range all {
			for _, q := range all {
				r := product(t, p, q)
				if impl.SignOf(r) != impl.SignOf(p)*impl.SignOf(q) {
					t.Fatalf("SignOf(%v) = %d, made of %v and %v", r, impl.SignOf(r), p, q)
				}
				if !slices.Equal(impl.InverseOrder(r), product(t, impl.InverseOrder(q), impl.InverseOrder(p))) {
					t.Fatalf("InverseOrder(%v) = %v, made of %v and %v", r, impl.InverseOrder(r), p, q)
				}
			}
		}
	}
}
