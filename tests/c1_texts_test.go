package tests

import (
	"slices"
	"strings"
	"testing"

	"loop.example/ordercounts/impl"
)

// textsOf returns all texts of n of the given bytes.
func textsOf(n int, letters string) []string {
	if n == 0 {
		return []string{""}
	}
	var all []string
	for _, rest := range textsOf(n-1, letters) {
		for k := range len(letters) {
			all = append(all, rest+letters[k:k+1])
		}
	}
	return all
}

func TestOrderText(t *testing.T) {
	for _, c := range []struct {
		p    []int
		text string
	}{{nil, ""}, {[]int{0}, "0"}, {[]int{1, 0}, "10"}, {[]int{6, 5, 4, 3, 2, 1, 0}, "6543210"}} {
		if impl.OrderText(c.p) != c.text {
			t.Errorf("OrderText(%v) = %q", c.p, impl.OrderText(c.p))
		}
		if p, ok := impl.ParseOrder(c.text); !ok || !slices.Equal(p, c.p) {
			t.Errorf("ParseOrder(%q) = %v, %v", c.text, p, ok)
		}
	}
}

func TestParseOrderOfOtherTexts(t *testing.T) {
	wrong := []string{" ", "0 ", " 0", "+0", "-0", "0,1", "0\n", "\x00", "\xff", "/", ":", "1", "7", "01234567", "76543210", "0123457", "0123455", "٠", strings.Repeat("0", 1000)}
	for _, s := range wrong {
		if p, ok := impl.ParseOrder(s); ok || len(p) != 0 {
			t.Errorf("ParseOrder(%q) = %v, %v", s, p, ok)
		}
	}
}

func TestPromise19OrdersAreReadBack(t *testing.T) {
	for _, p := range ordersUpTo(impl.MaxN) {
		if q, ok := impl.ParseOrder(impl.OrderText(p)); !ok || !slices.Equal(q, p) {
			t.Fatalf("ParseOrder(%q) = %v, %v", impl.OrderText(p), q, ok)
		}
	}
}

func TestPromise20TextsOfOrdersAreWrittenBack(t *testing.T) {
	texts := map[string]bool{}
	for _, p := range ordersUpTo(impl.MaxList) {
		text := ""
		for _, x := range p {
			text += "0123456"[x : x+1]
		}
		texts[text] = true
	}
	for n := range impl.MaxList + 1 {
		for _, s := range textsOf(n, "/01234:") {
			p, ok := impl.ParseOrder(s)
			if ok != texts[s] || !ok && len(p) != 0 || ok && impl.OrderText(p) != s {
				t.Fatalf("ParseOrder(%q) = %v, %v", s, p, ok)
			}
		}
	}
}
