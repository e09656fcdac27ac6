package tests

import (
	"slices"
	"testing"

	"loop.example/ordercounts/impl"
)

// fallsAt reports whether a lesser value stands right behind a place.
func fallsAt(p []int, k int) bool {
	return k+1 < len(p) && p[k] > p[k+1]
}

func TestDescentsAndMajor(t *testing.T) {
	for _, p := range ordersUpTo(impl.MaxN) {
		var places []int
		major := 0
		for k := range p {
			if fallsAt(p, k) {
				places = append(places, k)
				major += k + 1
			}
		}
		if !slices.Equal(impl.DescentsOf(p), places) || impl.MajorOf(p) != major {
			t.Fatalf("of %v: DescentsOf = %v, MajorOf = %d", p, impl.DescentsOf(p), impl.MajorOf(p))
		}
	}
}

func TestCirclesOf(t *testing.T) {
	for _, p := range ordersUpTo(impl.MaxN) {
		circles := impl.CirclesOf(p)
		values := 0
		for i, c := range circles {
			if len(c) == 0 || c[0] != slices.Min(c) || i > 0 && circles[i-1][0] >= c[0] {
				t.Fatalf("CirclesOf(%v) = %v", p, circles)
			}
			for k, x := range c {
				if p[x] != c[(k+1)%len(c)] {
					t.Fatalf("CirclesOf(%v) = %v", p, circles)
				}
			}
			values += len(c)
		}
		if values != len(p) {
			t.Fatalf("CirclesOf(%v) = %v", p, circles)
		}
	}
}

func TestCirclesOfFewValues(t *testing.T) {
	if c := impl.CirclesOf(nil); len(c) != 0 {
		t.Errorf("CirclesOf no values = %v", c)
	}
	if c := impl.CirclesOf([]int{0}); len(c) != 1 || !slices.Equal(c[0], []int{0}) {
		t.Errorf("CirclesOf one value = %v", c)
	}
}

func TestSignOfFewValues(t *testing.T) {
	if impl.SignOf(nil) != 1 || impl.SignOf([]int{0}) != 1 || impl.SignOf([]int{0, 1}) != 1 || impl.SignOf([]int{1, 0}) != -1 {
		t.Error("SignOf at most two values")
	}
}

func TestCountsOfOtherNumbers(t *testing.T) {
	for _, p := range notOrders() {
		if impl.InversionsOf(p) != -1 || impl.RankOf(p) != -1 || impl.MajorOf(p) != -1 || impl.SignOf(p) != 0 || impl.OrderText(p) != "" {
			t.Errorf("of %v: %d, %d, %d, %d, %q", p, impl.InversionsOf(p), impl.RankOf(p), impl.MajorOf(p), impl.SignOf(p), impl.OrderText(p))
		}
	}
}

func TestListsOfOtherNumbers(t *testing.T) {
	for _, p := range notOrders() {
		lists := [][]int{impl.InverseOrder(p), impl.TurnOrder(p), impl.OppositeOrder(p), impl.TableOf(p), impl.DescentsOf(p)}
		for i, list := range lists {
			if len(list) != 0 {
				t.Errorf("function %d of %v = %v", i, p, list)
			}
		}
		if c := impl.CirclesOf(p); len(c) != 0 {
			t.Errorf("CirclesOf(%v) = %v", p, c)
		}
	}
}

func TestPromise13DescentsAreFewerThanValues(t *testing.T) {
	for _, p := range ordersUpTo(impl.MaxN) {
		descents := impl.DescentsOf(p)
		if len(p) > 0 && len(descents) >= len(p) || len(p) == 0 && len(descents) > 0 {
			t.Fatalf("DescentsOf(%v) = %v", p, descents)
		}
		for i := 1; i < len(descents); i++ {
			if descents[i-1] >= descents[i] {
				t.Fatalf("DescentsOf(%v) = %v", p, descents)
			}
		}
		var risesFromEnd []int
		for k := len(p) - 2; k >= 0; k-- {
			if !fallsAt(p, k) {
				risesFromEnd = append(risesFromEnd, len(p)-2-k)
			}
		}
		if turned := impl.DescentsOf(impl.TurnOrder(p)); !slices.Equal(turned, risesFromEnd) {
			t.Fatalf("DescentsOf(%v), turned, = %v", p, turned)
		}
	}
}

func TestPromise14MajorIndicesOfOppositesAreAll(t *testing.T) {
	for _, p := range ordersUpTo(impl.MaxN) {
		if both := impl.MajorOf(p) + impl.MajorOf(impl.OppositeOrder(p)); both != allPairs(len(p)) {
			t.Fatalf("MajorOf(%v) and of the opposite order = %d", p, both)
		}
	}
}

func TestPromise15CirclesAreAllValues(t *testing.T) {
	for _, p := range ordersUpTo(impl.MaxN) {
		circles := impl.CirclesOf(p)
		values := slices.Sorted(slices.Values(slices.Concat(circles...)))
		if len(values) != len(p) || !rises(values) {
			t.Fatalf("CirclesOf(%v) = %v", p, circles)
		}
		if evenTogether := (len(p)+len(circles))%2 == 0; (impl.SignOf(p) == 1) != evenTogether {
			t.Fatalf("SignOf(%v) = %d, with circles %v", p, impl.SignOf(p), circles)
		}
	}
}

func TestPromise16SignsFollowInversions(t *testing.T) {
	for _, p := range ordersUpTo(impl.MaxN) {
		want := 1
		if impl.InversionsOf(p)%2 == 1 {
			want = -1
		}
		if impl.SignOf(p) != want || impl.SignOf(impl.InverseOrder(p)) != want {
			t.Fatalf("SignOf(%v) = %d, of the inverse %d", p, impl.SignOf(p), impl.SignOf(impl.InverseOrder(p)))
		}
	}
}
