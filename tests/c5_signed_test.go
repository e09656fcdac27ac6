package tests

import (
	"slices"
	"testing"

	"loop.example/ordercounts/impl"
)

// signedProduct returns the product of signed orders that have one.
func signedProduct(t *testing.T, v, w []int) []int {
	t.Helper()
	product, ok := impl.MultiplySigned(v, w)
	if !ok || len(product) != len(w) {
		t.Fatalf("MultiplySigned(%v, %v) = %v, %v", v, w, product, ok)
	}
	return product
}

// chosenSigned returns some signed orders of n numbers: each of few ones, and of more some that lie apart, with both ends.
func chosenSigned(n int) [][]int {
	all := signedOf(n)
	step := max(1, len(all)/60)
	chosen := [][]int{all[len(all)-1]}
	for k := 0; k < len(all); k += step {
		chosen = append(chosen, all[k])
	}
	return chosen
}

func TestValidSigned(t *testing.T) {
	for n := range impl.MaxSigned + 1 {
		signed := map[[impl.MaxSigned]int]bool{}
		for _, w := range signedOf(n) {
			var key [impl.MaxSigned]int
			copy(key[:], w)
			signed[key] = true
		}
		for _, w := range listsOf(n, -n-1, n+1) {
			var key [impl.MaxSigned]int
			copy(key[:], w)
			if impl.ValidSigned(w) != signed[key] {
				t.Fatalf("ValidSigned(%v) = %v", w, impl.ValidSigned(w))
			}
		}
	}
}

func TestCountsOfSigned(t *testing.T) {
	for _, w := range signedUpTo(impl.MaxSigned) {
		if impl.NegativesOf(w) != negativesAmong(w) || impl.LengthOf(w) != lengthAmong(w) || impl.FlagMajor(w) != flagAmong(w) || impl.FallsOf(w) != fallsAmong(w) {
			t.Fatalf("of %v: NegativesOf = %d, LengthOf = %d, FlagMajor = %d, FallsOf = %d", w, impl.NegativesOf(w), impl.LengthOf(w), impl.FlagMajor(w), impl.FallsOf(w))
		}
		var sizes []int
		for _, x := range w {
			sizes = append(sizes, max(x, -x)-1)
		}
		if !slices.Equal(impl.SizesOf(w), sizes) {
			t.Fatalf("SizesOf(%v) = %v", w, impl.SizesOf(w))
		}
	}
}

func TestKnownCountsOfSigned(t *testing.T) {
	cases := []struct {
		w, sizes                       []int
		negatives, length, flag, falls int
		inverse                        []int
	}{
		{nil, nil, 0, 0, 0, 0, nil},
		{[]int{1}, []int{0}, 0, 0, 0, 0, []int{1}},
		{[]int{-1}, []int{0}, 1, 1, 1, 1, []int{-1}},
		{[]int{-1, 2}, []int{0, 1}, 1, 1, 1, 1, []int{-1, 2}},
		{[]int{1, -2}, []int{0, 1}, 1, 3, 3, 1, []int{1, -2}},
		{[]int{-2, -1}, []int{1, 0}, 2, 3, 2, 1, []int{-2, -1}},
		{[]int{-1, -2}, []int{0, 1}, 2, 4, 4, 2, []int{-1, -2}},
		{[]int{-2, 3, -1}, []int{1, 2, 0}, 2, 4, 6, 2, []int{-3, -1, 2}},
		{[]int{2, -3, 1}, []int{1, 2, 0}, 1, 5, 3, 1, []int{3, 1, -2}},
		{[]int{-1, -2, -3, -4, -5}, []int{0, 1, 2, 3, 4}, 5, 25, 25, 5, []int{-1, -2, -3, -4, -5}},
		{[]int{-5, -4, -3, -2, -1}, []int{4, 3, 2, 1, 0}, 5, 15, 5, 1, []int{-5, -4, -3, -2, -1}},
		{[]int{5, 4, 3, 2, 1}, []int{4, 3, 2, 1, 0}, 0, 10, 20, 4, []int{5, 4, 3, 2, 1}},
	}
	for _, c := range cases {
		if !slices.Equal(impl.SizesOf(c.w), c.sizes) || impl.NegativesOf(c.w) != c.negatives || impl.LengthOf(c.w) != c.length || impl.FlagMajor(c.w) != c.flag || impl.FallsOf(c.w) != c.falls || !slices.Equal(impl.InverseSigned(c.w), c.inverse) {
			t.Errorf("of %v: SizesOf = %v, NegativesOf = %d, LengthOf = %d, FlagMajor = %d, FallsOf = %d, InverseSigned = %v", c.w, impl.SizesOf(c.w), impl.NegativesOf(c.w), impl.LengthOf(c.w), impl.FlagMajor(c.w), impl.FallsOf(c.w), impl.InverseSigned(c.w))
		}
	}
}

func TestNumbersThatAreNotSigned(t *testing.T) {
	for _, w := range notSigned() {
		if impl.ValidSigned(w) || impl.SizesOf(w) != nil || impl.InverseSigned(w) != nil || impl.SignedText(w) != "" {
			t.Errorf("of %v: ValidSigned = %v, SizesOf = %v, InverseSigned = %v, SignedText = %q", w, impl.ValidSigned(w), impl.SizesOf(w), impl.InverseSigned(w), impl.SignedText(w))
		}
		for i, x := range []int{impl.NegativesOf(w), impl.LengthOf(w), impl.FlagMajor(w), impl.FallsOf(w)} {
			if x != -1 {
				t.Errorf("function %d of %v = %d", i, w, x)
			}
		}
	}
}

func TestMultiplySigned(t *testing.T) {
	for n := range impl.MaxSigned {
		for _, v := range signedOf(n) {
			for _, w := range signedOf(n) {
				var want []int
				for _, x := range w {
					if x > 0 {
						want = append(want, v[x-1])
					} else {
						want = append(want, -v[-x-1])
					}
				}
				if product := signedProduct(t, v, w); !slices.Equal(product, want) {
					t.Fatalf("MultiplySigned(%v, %v) = %v, not %v", v, w, product, want)
				}
			}
		}
	}
}

func TestKnownProductsOfSigned(t *testing.T) {
	cases := []struct{ v, w, product []int }{
		{nil, nil, nil},
		{[]int{-1}, []int{-1}, []int{1}},
		{[]int{1}, []int{-1}, []int{-1}},
		{[]int{-1, 2}, []int{-2, -1}, []int{-2, 1}},
		{[]int{-2, -1}, []int{-1, 2}, []int{2, -1}},
		{[]int{-2, 3, -1}, []int{-2, 3, -1}, []int{-3, -1, 2}},
		{[]int{2, 3, 4, 5, -1}, []int{-5, -1, 2, 3, 4}, []int{1, -2, 3, 4, 5}},
	}
	for _, c := range cases {
		if product := signedProduct(t, c.v, c.w); !slices.Equal(product, c.product) {
			t.Errorf("MultiplySigned(%v, %v) = %v, not %v", c.v, c.w, product, c.product)
		}
	}
}

func TestMultiplySignedOfOtherNumbers(t *testing.T) {
	for _, v := range append(signedUpTo(3), notSigned()...) {
		for _, w := range append(notSigned(), []int{1, -2, 3, 4}) {
			if product, ok := impl.MultiplySigned(v, w); ok || product != nil {
				t.Errorf("MultiplySigned(%v, %v) = %v, %v", v, w, product, ok)
			}
			if product, ok := impl.MultiplySigned(w, v); ok || product != nil {
				t.Errorf("MultiplySigned(%v, %v) = %v, %v", w, v, product, ok)
			}
		}
	}
}

func TestPromise58SignedOrdersHaveInverses(t *testing.T) {
	for _, w := range signedUpTo(impl.MaxSigned) {
		inverse := impl.InverseSigned(w)
		if !impl.ValidSigned(w) || !impl.ValidSigned(inverse) || len(inverse) != len(w) || !impl.ValidSigned(otherSigns(w)) {
			t.Fatalf("ValidSigned(%v) = %v, InverseSigned = %v, with all other signs %v", w, impl.ValidSigned(w), inverse, impl.ValidSigned(otherSigns(w)))
		}
	}
}

func TestPromise59SizesAreAnOrder(t *testing.T) {
	for _, w := range signedUpTo(impl.MaxSigned) {
		sizes, ofInverse := impl.SizesOf(w), impl.SizesOf(impl.InverseSigned(w))
		if !impl.ValidOrder(sizes) || len(sizes) != len(w) || !slices.Equal(ofInverse, impl.InverseOrder(sizes)) {
			t.Fatalf("SizesOf(%v) = %v, and of the inverse %v", w, sizes, ofInverse)
		}
	}
}

func TestPromise60SignsStayWithTheInverse(t *testing.T) {
	for _, w := range signedUpTo(impl.MaxSigned) {
		negatives := impl.NegativesOf(w)
		if negatives < 0 || impl.NegativesOf(impl.InverseSigned(w)) != negatives || impl.NegativesOf(otherSigns(w)) != len(w)-negatives {
			t.Fatalf("NegativesOf(%v) = %d, of the inverse %d, with all other signs %d", w, negatives, impl.NegativesOf(impl.InverseSigned(w)), impl.NegativesOf(otherSigns(w)))
		}
	}
}

func TestPromise61LengthsOfOppositesAreAll(t *testing.T) {
	for _, w := range signedUpTo(impl.MaxSigned) {
		length := impl.LengthOf(w)
		if length < 0 || impl.LengthOf(impl.InverseSigned(w)) != length || impl.LengthOf(otherSigns(w)) != len(w)*len(w)-length {
			t.Fatalf("LengthOf(%v) = %d, of the inverse %d, with all other signs %d", w, length, impl.LengthOf(impl.InverseSigned(w)), impl.LengthOf(otherSigns(w)))
		}
	}
}

func TestPromise62FlagsAreEvenWithSigns(t *testing.T) {
	for _, w := range signedUpTo(impl.MaxSigned) {
		flag := impl.FlagMajor(w)
		if flag < 0 || flag%2 != impl.NegativesOf(w)%2 || flag > len(w)*len(w) {
			t.Fatalf("FlagMajor(%v) = %d, NegativesOf = %d", w, flag, impl.NegativesOf(w))
		}
	}
}

func TestPromise63FallsAndRisesAreAllPlaces(t *testing.T) {
	for _, w := range signedUpTo(impl.MaxSigned) {
		falls, others := impl.FallsOf(w), impl.FallsOf(otherSigns(w))
		if falls < 0 || others < 0 || falls+others != len(w) {
			t.Fatalf("FallsOf(%v) = %d, with all other signs %d", w, falls, others)
		}
	}
}

func TestPromise64LengthsAreAtMostAdded(t *testing.T) {
	for n := range impl.MaxSigned + 1 {
		for _, v := range chosenSigned(n) {
			for _, w := range signedOf(n) {
				product := signedProduct(t, v, w)
				length, both := impl.LengthOf(product), impl.LengthOf(v)+impl.LengthOf(w)
				if length > both || length%2 != both%2 {
					t.Fatalf("LengthOf MultiplySigned(%v, %v) = %d, both %d", v, w, length, both)
				}
				turned := signedProduct(t, impl.InverseSigned(w), impl.InverseSigned(v))
				if !slices.Equal(impl.InverseSigned(product), turned) {
					t.Fatalf("InverseSigned of MultiplySigned(%v, %v) = %v, not %v", v, w, impl.InverseSigned(product), turned)
				}
			}
		}
	}
}

func TestPromise65InversesUndoSignedOrders(t *testing.T) {
	for _, w := range signedUpTo(impl.MaxSigned) {
		inverse := impl.InverseSigned(w)
		if twice := impl.InverseSigned(inverse); !slices.Equal(twice, w) {
			t.Fatalf("InverseSigned twice of %v = %v", w, twice)
		}
		if !risesFromOne(signedProduct(t, w, inverse)) || !risesFromOne(signedProduct(t, inverse, w)) {
			t.Fatalf("%v and its inverse %v multiply to %v", w, inverse, signedProduct(t, w, inverse))
		}
	}
}
