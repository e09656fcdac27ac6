package tests

import (
	"testing"

	"loop.example/ordercounts/impl"
)

// countNames are the names that CountOf has.
func countNames() []string {
	return []string{"inversions", "major", "denert", "crossings", "nestings", "descents", "above", "records", "circles"}
}

// notNames are texts that are near to names and are none.
func notNames() []string {
	return []string{"", " ", "fixed", "shift", "sign", "rank", "table", "foata", "line", "length", "flag", "falls", "negatives", "Major", "MAJOR", "major ", " major", "majo", "majors", "inversion", "descent", "circle", "record", "crossing", "nesting", "InversionsOf", "major\x00"}
}

// inversionsAmong returns how many pairs of values have the greater one ahead.
func inversionsAmong(list []int) int {
	pairs := 0
	for k, x := range list {
		for _, ahead := range list[:k] {
			if ahead > x {
				pairs++
			}
		}
	}
	return pairs
}

func TestDenertOf(t *testing.T) {
	for _, p := range ordersUpTo(impl.MaxN) {
		var above, others []int
		places := 0
		for k, x := range p {
			if x > k {
				above = append(above, x)
				places += k + 1
			} else {
				others = append(others, x)
			}
		}
		if want := places + inversionsAmong(above) + inversionsAmong(others); impl.DenertOf(p) != want {
			t.Fatalf("DenertOf(%v) = %d, not %d", p, impl.DenertOf(p), want)
		}
	}
	// The places above are 1, 2 and 5, counted from 1; of their values 6 stands ahead of 5, and of the others 1 and 3 of 0, and 3 of 2.
	if p := []int{4, 6, 1, 3, 5, 0, 2}; impl.DenertOf(p) != 8+1+3 {
		t.Errorf("DenertOf(%v) = %d", p, impl.DenertOf(p))
	}
}

func TestShiftOf(t *testing.T) {
	for _, p := range ordersUpTo(impl.MaxN) {
		want := 0
		for k, x := range p {
			if x < k {
				want += k - x
			} else {
				want += x - k
			}
		}
		if impl.ShiftOf(p) != want {
			t.Fatalf("ShiftOf(%v) = %d, not %d", p, impl.ShiftOf(p), want)
		}
	}
}

func TestCrossingsAndNestings(t *testing.T) {
	for _, p := range ordersUpTo(impl.MaxN) {
		crossings, nestings := 0, 0
		for i, u := range p {
			for k, v := range p {
				if i < k && k <= u && u < v || u < v && v < i && i < k {
					crossings++
				}
				if i < k && k <= v && v < u || v < u && u < i && i < k {
					nestings++
				}
			}
		}
		if impl.CrossingsOf(p) != crossings || impl.NestingsOf(p) != nestings {
			t.Fatalf("of %v: CrossingsOf = %d, NestingsOf = %d", p, impl.CrossingsOf(p), impl.NestingsOf(p))
		}
	}
}

func TestArcsThatEndWhereOthersBegin(t *testing.T) {
	// Above, arcs that meet at a place cross, and a place that an arc begins and ends at lies in one around it; below they do not.
	cases := []struct {
		p                   []int
		crossings, nestings int
	}{
		{[]int{1, 2, 0}, 1, 0},
		{[]int{2, 0, 1}, 0, 0},
		{[]int{2, 1, 0}, 0, 1},
		{[]int{0, 1, 2}, 0, 0},
		{[]int{1, 0}, 0, 0},
		{[]int{1, 2, 3, 0}, 2, 0},
		{[]int{3, 0, 1, 2}, 0, 0},
		{[]int{3, 1, 2, 0}, 0, 2},
		{[]int{2, 3, 0, 1}, 2, 0},
		{[]int{3, 2, 1, 0}, 0, 2},
		{[]int{1, 0, 3, 2}, 0, 0},
	}
	for _, c := range cases {
		if impl.CrossingsOf(c.p) != c.crossings || impl.NestingsOf(c.p) != c.nestings {
			t.Errorf("of %v: CrossingsOf = %d, NestingsOf = %d", c.p, impl.CrossingsOf(c.p), impl.NestingsOf(c.p))
		}
	}
}

func TestNumbersOfFewValues(t *testing.T) {
	for _, p := range [][]int{nil, {}, {0}} {
		for i, x := range []int{impl.DenertOf(p), impl.ShiftOf(p), impl.CrossingsOf(p), impl.NestingsOf(p)} {
			if x != 0 {
				t.Errorf("function %d of %v = %d", i, p, x)
			}
		}
	}
}

func TestNumbersOfOtherNumbers(t *testing.T) {
	for _, p := range notOrders() {
		for i, x := range []int{impl.DenertOf(p), impl.ShiftOf(p), impl.CrossingsOf(p), impl.NestingsOf(p)} {
			if x != -1 {
				t.Errorf("function %d of %v = %d", i, p, x)
			}
		}
	}
}

func TestCountOfOtherArguments(t *testing.T) {
	for _, name := range notNames() {
		for _, p := range [][]int{nil, {0}, {2, 0, 3, 1}, {1}} {
			if x, ok := impl.CountOf(name, p); ok || x != 0 {
				t.Errorf("CountOf(%q, %v) = %d, %v", name, p, x, ok)
			}
		}
	}
	for _, name := range countNames() {
		for _, p := range notOrders() {
			if x, ok := impl.CountOf(name, p); ok || x != 0 {
				t.Errorf("CountOf(%q, %v) = %d, %v", name, p, x, ok)
			}
		}
	}
}

func TestPromise3InversesKeepInversions(t *testing.T) {
	for _, p := range ordersUpTo(impl.MaxN) {
		inverse := impl.InverseOrder(p)
		twice := impl.InverseOrder(inverse)
		if len(twice) != len(p) || impl.RankOf(twice) != impl.RankOf(p) {
			t.Fatalf("InverseOrder twice of %v = %v", p, twice)
		}
		if impl.InversionsOf(inverse) != impl.InversionsOf(p) || impl.ShiftOf(inverse) != impl.ShiftOf(p) || len(impl.CirclesOf(inverse)) != len(impl.CirclesOf(p)) {
			t.Fatalf("%v and its inverse %v: inversions %d, %d, ShiftOf %d, %d", p, inverse, impl.InversionsOf(p), impl.InversionsOf(inverse), impl.ShiftOf(p), impl.ShiftOf(inverse))
		}
	}
}

func TestPromise24DenertsNumberIsThatOfPairs(t *testing.T) {
	for _, p := range ordersUpTo(impl.MaxN) {
		denert := impl.DenertOf(p)
		if denert < 0 || (denert == 0) != rises(p) || denert > allPairs(len(p)) {
			t.Fatalf("DenertOf(%v) = %d", p, denert)
		}
	}
}

func TestPromise25ShiftsLieBetweenInversions(t *testing.T) {
	for _, p := range ordersUpTo(impl.MaxN) {
		shift, inversions := impl.ShiftOf(p), impl.InversionsOf(p)
		notFirst := len(p) - len(impl.CirclesOf(p))
		if shift%2 != 0 || shift > 2*inversions || shift < inversions+notFirst {
			t.Fatalf("ShiftOf(%v) = %d, with %d inversions", p, shift, inversions)
		}
	}
}

func TestPromise26CrossingsAndNestingsArePairsOfPlaces(t *testing.T) {
	for _, p := range ordersUpTo(impl.MaxN) {
		crossings, nestings := impl.CrossingsOf(p), impl.NestingsOf(p)
		if crossings < 0 || nestings < 0 || crossings+nestings > allPairs(len(p)) || rises(p) && crossings+nestings != 0 {
			t.Fatalf("of %v: CrossingsOf = %d, NestingsOf = %d", p, crossings, nestings)
		}
	}
}

func TestPromise27FallingOrdersNestAndDoNotCross(t *testing.T) {
	for n := range impl.MaxN + 1 {
		falling := impl.TurnOrder(impl.RisingOrder(n))
		if nestings := impl.NestingsOf(falling); (nestings > 0) != (n >= 3) || impl.CrossingsOf(falling) != 0 {
			t.Errorf("of %v: CrossingsOf = %d, NestingsOf = %d", falling, impl.CrossingsOf(falling), nestings)
		}
	}
}

func TestPromise28NamesAreCounts(t *testing.T) {
	for _, p := range ordersUpTo(impl.MaxN) {
		numbers := map[string]int{
			"inversions": impl.InversionsOf(p),
			"major":      impl.MajorOf(p),
			"denert":     impl.DenertOf(p),
			"crossings":  impl.CrossingsOf(p),
			"nestings":   impl.NestingsOf(p),
			"descents":   len(impl.DescentsOf(p)),
			"above":      len(impl.AboveOf(p)),
			"records":    len(impl.RecordsOf(p)),
			"circles":    len(impl.CirclesOf(p)),
		}
		for _, name := range countNames() {
			if x, ok := impl.CountOf(name, p); !ok || x != numbers[name] {
				t.Fatalf("CountOf(%q, %v) = %d, %v", name, p, x, ok)
			}
		}
	}
}
