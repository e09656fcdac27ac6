package tests

import (
	"math"
	"slices"
	"testing"

	"loop.example/ordercounts/impl"
)

func TestTableOf(t *testing.T) {
	for _, p := range ordersUpTo(impl.MaxN) {
		table := impl.TableOf(p)
		if len(table) != len(p) {
			t.Fatalf("TableOf(%v) = %v", p, table)
		}
		for k, x := range p {
			lesser := 0
			for _, y := range p[k:] {
				if y < x {
					lesser++
				}
			}
			if table[k] != lesser {
				t.Fatalf("TableOf(%v) = %v", p, table)
			}
		}
	}
}

func TestInversionsOf(t *testing.T) {
	for _, p := range ordersUpTo(impl.MaxN) {
		pairs := 0
		for k := range p {
			for i := range k {
				if p[i] > p[k] {
					pairs++
				}
			}
		}
		if impl.InversionsOf(p) != pairs {
			t.Fatalf("InversionsOf(%v) = %d", p, impl.InversionsOf(p))
		}
	}
}

func TestOrderOfTableAtItsGreatest(t *testing.T) {
	for n := range impl.MaxN + 1 {
		greatest := make([]int, n)
		for k := range greatest {
			greatest[k] = n - 1 - k
		}
		p, ok := impl.OrderOfTable(greatest)
		if !ok || !slices.Equal(p, greatest) {
			t.Errorf("OrderOfTable(%v) = %v, %v", greatest, p, ok)
		}
		for k := range greatest {
			tooGreat := slices.Clone(greatest)
			tooGreat[k]++
			if p, ok := impl.OrderOfTable(tooGreat); ok || len(p) != 0 {
				t.Errorf("OrderOfTable(%v) = %v, %v", tooGreat, p, ok)
			}
		}
	}
}

func TestOrderOfTableOfOtherNumbers(t *testing.T) {
	wrong := [][]int{{1}, {-1}, {0, 1}, {2, 0}, {-1, 0}, {0, -1}, {math.MinInt}, {math.MaxInt}, {math.MinInt, 0, 0}, {0, 0, math.MaxInt}, make([]int, impl.MaxN+1), make([]int, 1000)}
	for _, w := range wrong {
		if p, ok := impl.OrderOfTable(w); ok || len(p) != 0 {
			t.Errorf("OrderOfTable(%v) = %v, %v", w, p, ok)
		}
	}
	for n := range 5 {
		for _, table := range listsOf(n, -1, n) {
			fits := true
			for k, x := range table {
				fits = fits && x >= 0 && x < n-k
			}
			if p, ok := impl.OrderOfTable(table); ok != fits || !ok && len(p) != 0 {
				t.Fatalf("OrderOfTable(%v) = %v, %v", table, p, ok)
			}
		}
	}
}

func TestRankOf(t *testing.T) {
	for n := range impl.MaxN + 1 {
		for rank, p := range ordersOf(n) {
			if impl.RankOf(p) != rank {
				t.Fatalf("RankOf(%v) = %d, not %d", p, impl.RankOf(p), rank)
			}
		}
	}
}

func TestOrderOfRank(t *testing.T) {
	for n := range impl.MaxN + 1 {
		for rank, p := range ordersOf(n) {
			if q, ok := impl.OrderOfRank(n, rank); !ok || !slices.Equal(q, p) {
				t.Fatalf("OrderOfRank(%d, %d) = %v, %v", n, rank, q, ok)
			}
		}
	}
}

func TestOrderOfRankOfOtherNumbers(t *testing.T) {
	for n := range impl.MaxN + 1 {
		for _, r := range []int{-1, math.MinInt, factorial(n), factorial(n) + 1, math.MaxInt} {
			if p, ok := impl.OrderOfRank(n, r); ok || len(p) != 0 {
				t.Errorf("OrderOfRank(%d, %d) = %v, %v", n, r, p, ok)
			}
		}
	}
	for _, n := range []int{-1, impl.MaxN + 1, math.MinInt, math.MaxInt} {
		if p, ok := impl.OrderOfRank(n, 0); ok || len(p) != 0 {
			t.Errorf("OrderOfRank(%d, 0) = %v, %v", n, p, ok)
		}
	}
}

func TestAllOrders(t *testing.T) {
	for n := range impl.MaxList + 1 {
		if all := impl.AllOrders(n); !slices.EqualFunc(all, ordersOf(n), slices.Equal) {
			t.Errorf("AllOrders(%d) = %v", n, all)
		}
	}
	for _, n := range []int{-1, impl.MaxList + 1, impl.MaxN, math.MinInt, math.MaxInt} {
		if all := impl.AllOrders(n); len(all) != 0 {
			t.Errorf("AllOrders(%d) are %d", n, len(all))
		}
	}
}

func TestPromise7TablesAreReadBack(t *testing.T) {
	for _, p := range ordersUpTo(impl.MaxN) {
		table := impl.TableOf(p)
		for k, x := range table {
			if x < 0 || x > len(p)-1-k {
				t.Fatalf("TableOf(%v) = %v", p, table)
			}
		}
		if q, ok := impl.OrderOfTable(table); !ok || !slices.Equal(q, p) {
			t.Fatalf("OrderOfTable(%v) = %v, %v", table, q, ok)
		}
	}
}

func TestPromise8InversionsAreTheSumOfTheTable(t *testing.T) {
	for _, p := range ordersUpTo(impl.MaxN) {
		inversions := impl.InversionsOf(p)
		if inversions != sum(impl.TableOf(p)) || (inversions == 0) != rises(p) || inversions > allPairs(len(p)) {
			t.Fatalf("InversionsOf(%v) = %d", p, inversions)
		}
	}
}

func TestPromise9OrdersAreWrittenBack(t *testing.T) {
	for n := range impl.MaxN + 1 {
		for rank := range factorial(n) {
			table := make([]int, n)
			for k := range table {
				table[k] = rank % (n - k)
				rank /= n - k
			}
			p, ok := impl.OrderOfTable(table)
			if !ok || !slices.Equal(impl.TableOf(p), table) {
				t.Fatalf("OrderOfTable(%v) = %v, %v", table, p, ok)
			}
		}
	}
}

func TestPromise10RanksAreReadBack(t *testing.T) {
	for _, p := range ordersUpTo(impl.MaxN) {
		if q, ok := impl.OrderOfRank(len(p), impl.RankOf(p)); !ok || !slices.Equal(q, p) {
			t.Fatalf("OrderOfRank(%d, %d) = %v, %v", len(p), impl.RankOf(p), q, ok)
		}
	}
}

func TestPromise11RanksAreWrittenBack(t *testing.T) {
	for n := range impl.MaxN + 1 {
		for rank := range factorial(n) {
			if p, ok := impl.OrderOfRank(n, rank); !ok || impl.RankOf(p) != rank {
				t.Fatalf("OrderOfRank(%d, %d) = %v, %v", n, rank, p, ok)
			}
		}
	}
}

func TestPromise12AllOrdersStandByTheirRanks(t *testing.T) {
	for n := range impl.MaxList + 1 {
		all := impl.AllOrders(n)
		if len(all) != factorial(n) {
			t.Errorf("AllOrders(%d) are %d", n, len(all))
		}
		for rank, p := range all {
			if len(p) != n || impl.RankOf(p) != rank {
				t.Errorf("AllOrders(%d)[%d] = %v", n, rank, p)
			}
		}
	}
}
