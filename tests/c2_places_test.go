package tests

import (
	"slices"
	"testing"

	"loop.example/ordercounts/impl"
)

func TestAboveAndFixed(t *testing.T) {
	for _, p := range ordersUpTo(impl.MaxN) {
		var above, fixed []int
		for k, x := range p {
			if x > k {
				above = append(above, k)
			}
			if x == k {
				fixed = append(fixed, k)
			}
		}
		if !slices.Equal(impl.AboveOf(p), above) || !slices.Equal(impl.FixedOf(p), fixed) {
			t.Fatalf("of %v: AboveOf = %v, FixedOf = %v", p, impl.AboveOf(p), impl.FixedOf(p))
		}
	}
}

func TestRecordsOf(t *testing.T) {
	for _, p := range ordersUpTo(impl.MaxN) {
		var records []int
		for k, x := range p {
			if k == 0 || x > slices.Max(p[:k]) {
				records = append(records, k)
			}
		}
		if !slices.Equal(impl.RecordsOf(p), records) {
			t.Fatalf("RecordsOf(%v) = %v", p, impl.RecordsOf(p))
		}
	}
}

func TestPlacesOfAnOrder(t *testing.T) {
	p := []int{1, 0, 2, 4, 5, 3, 6}
	if above := impl.AboveOf(p); !slices.Equal(above, []int{0, 3, 4}) {
		t.Errorf("AboveOf(%v) = %v", p, above)
	}
	if fixed := impl.FixedOf(p); !slices.Equal(fixed, []int{2, 6}) {
		t.Errorf("FixedOf(%v) = %v", p, fixed)
	}
	if records := impl.RecordsOf(p); !slices.Equal(records, []int{0, 2, 3, 4, 6}) {
		t.Errorf("RecordsOf(%v) = %v", p, records)
	}
}

func TestPlacesOfOtherNumbers(t *testing.T) {
	for _, p := range notOrders() {
		for i, list := range [][]int{impl.AboveOf(p), impl.FixedOf(p), impl.RecordsOf(p)} {
			if len(list) != 0 {
				t.Errorf("function %d of %v = %v", i, p, list)
			}
		}
	}
}

func TestPromise21PlacesAreAboveBelowOrFixed(t *testing.T) {
	for _, p := range ordersUpTo(impl.MaxN) {
		// AboveOf the inverse are the values below their places, so p tells at which places those stand.
		inverse := impl.InverseOrder(p)
		places := slices.Concat(impl.AboveOf(p), impl.FixedOf(p))
		for _, x := range impl.AboveOf(inverse) {
			places = append(places, inverse[x])
		}
		slices.Sort(places)
		if len(places) != len(p) || !rises(places) {
			t.Fatalf("of %v: above %v, of the inverse %v, fixed %v", p, impl.AboveOf(p), impl.AboveOf(inverse), impl.FixedOf(p))
		}
	}
}

func TestPromise22FixedPlacesAreCirclesAlone(t *testing.T) {
	for _, p := range ordersUpTo(impl.MaxN) {
		var alone []int
		for _, c := range impl.CirclesOf(p) {
			if len(c) == 1 {
				alone = append(alone, c[0])
			}
		}
		fixed := impl.FixedOf(p)
		if !slices.Equal(impl.FixedOf(impl.InverseOrder(p)), fixed) || !slices.Equal(alone, fixed) {
			t.Fatalf("FixedOf(%v) = %v, of the inverse %v, circles alone %v", p, fixed, impl.FixedOf(impl.InverseOrder(p)), alone)
		}
	}
}

func TestPromise23RecordsBeginAtTheFirstPlace(t *testing.T) {
	for _, p := range ordersUpTo(impl.MaxN) {
		records := impl.RecordsOf(p)
		if len(p) == 0 {
			if len(records) != 0 {
				t.Fatalf("RecordsOf no values = %v", records)
			}
			continue
		}
		if len(records) == 0 || records[0] != 0 || p[records[len(records)-1]] != len(p)-1 {
			t.Fatalf("RecordsOf(%v) = %v", p, records)
		}
		for i := 1; i < len(records); i++ {
			if records[i-1] >= records[i] || p[records[i-1]] >= p[records[i]] {
				t.Fatalf("RecordsOf(%v) = %v", p, records)
			}
		}
	}
}
