package tests

import (
	"slices"
	"testing"

	"loop.example/ordercounts/impl"
)

// signedFunctions are the functions of the fifth layer that return a list, each as one that turns a list into a list.
func signedFunctions() map[string]func([]int) []int {
	first := func(list []int, _ bool) []int { return list }
	return map[string]func([]int) []int{
		"SizesOf":                impl.SizesOf,
		"InverseSigned":          impl.InverseSigned,
		"MultiplySigned of both": func(w []int) []int { return first(impl.MultiplySigned(w, w)) },
		"MultiplySigned by 1":    func(v []int) []int { return first(impl.MultiplySigned(v, []int{1, 2, 3}[:min(3, len(v))])) },
		"MultiplySigned of 1":    func(w []int) []int { return first(impl.MultiplySigned([]int{1, 2, 3}[:min(3, len(w))], w)) },
	}
}

func TestSignedAreFresh(t *testing.T) {
	for name, list := range signedFunctions() {
		for _, w := range append(signedUpTo(3), []int{0}, []int{1, -1}, []int{1, 2, 3, 4}, []int{5, 1, 2, 3, -4}) {
			if !fresh(list, w) {
				t.Errorf("%s(%v) changes or shares memory", name, w)
			}
		}
	}
}

func TestCountsOfSignedKeepArguments(t *testing.T) {
	for _, w := range append(signedUpTo(4), notSigned()...) {
		before := slices.Clone(w)
		impl.ValidSigned(w)
		impl.NegativesOf(w)
		impl.LengthOf(w)
		impl.FlagMajor(w)
		impl.FallsOf(w)
		impl.SignedText(w)
		for _, list := range signedFunctions() {
			list(w)
		}
		if !slices.Equal(w, before) {
			t.Fatalf("%v became %v", before, w)
		}
	}
}

func TestRowsOfSignedAreFresh(t *testing.T) {
	rows := map[string]func(n int) []int{
		"DoubleRow": impl.DoubleRow,
		"FallRow":   impl.FallRow,
		"SignedRow": func(n int) []int { return signedRow(t, "falls", n) },
	}
	for name, row := range rows {
		for n := range impl.MaxSignedList + 1 {
			first := row(n)
			again := slices.Clone(first)
			overwrite(first)
			if !slices.Equal(row(n), again) {
				t.Errorf("%s(%d) is kept from call to call", name, n)
			}
		}
	}
}

func TestAllSignedAreApart(t *testing.T) {
	for n := range impl.MaxSignedList + 1 {
		if !apart(impl.AllSigned(n)) {
			t.Errorf("AllSigned(%d) share memory", n)
		}
		if !equalRows(impl.AllSigned(n), signedOf(n)) {
			t.Errorf("AllSigned(%d) are kept from call to call", n)
		}
	}
}

func TestTextsKeepNothing(t *testing.T) {
	first, _ := impl.ParseSigned("-23-1")
	overwrite(first)
	if again, ok := impl.ParseSigned("-23-1"); !ok || !slices.Equal(again, []int{-2, 3, -1}) {
		t.Error("ParseSigned is kept from call to call")
	}
	lines := mixedLines(impl.MaxDesk)
	before := slices.Clone(lines)
	out := impl.RunDesk(lines)
	if !slices.Equal(lines, before) || impl.RunDesk(lines) != out {
		t.Error("RunDesk changes its lines, or keeps something from call to call")
	}
}
