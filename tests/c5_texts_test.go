package tests

import (
	"slices"
	"strings"
	"testing"

	"loop.example/ordercounts/impl"
)

// signedTextOf returns the text of a signed order, without the program's help.
func signedTextOf(w []int) string {
	text := ""
	for _, x := range w {
		if x < 0 {
			text += "-"
			x = -x
		}
		text += "012345"[x : x+1]
	}
	return text
}

func TestSignedText(t *testing.T) {
	for _, w := range signedUpTo(impl.MaxSigned) {
		if impl.SignedText(w) != signedTextOf(w) {
			t.Fatalf("SignedText(%v) = %q", w, impl.SignedText(w))
		}
	}
	for _, c := range []struct {
		w    []int
		text string
	}{{nil, ""}, {[]int{1}, "1"}, {[]int{-1}, "-1"}, {[]int{-2, 3, -1}, "-23-1"}, {[]int{-5, -4, -3, -2, -1}, "-5-4-3-2-1"}, {[]int{1, 2, 3, 4, -5}, "1234-5"}} {
		if impl.SignedText(c.w) != c.text {
			t.Errorf("SignedText(%v) = %q", c.w, impl.SignedText(c.w))
		}
		if w, ok := impl.ParseSigned(c.text); !ok || !slices.Equal(w, c.w) {
			t.Errorf("ParseSigned(%q) = %v, %v", c.text, w, ok)
		}
	}
}

// notSignedTexts are texts that are near to those of signed orders and are none.
func notSignedTexts() []string {
	return []string{
		"-", "--", "1-", "-1-", "12-", "-2-1-", "12345-", "-1-2-3-4-5-",
		"--1", "--12", "1--2", "-1--2",
		"0", "-0", "01", "10", "12-0", "2", "-2", "11", "1-1", "-1-1", "-11", "13", "-3-1",
		"6", "123456", "-1-2-3-4-5-6", "12346", "12355", "123451", "12345-6",
		"+1", "1+2", "1 2", " 1", "1 ", " ", "-1 ", "- 1", "1,2", "1\n", "\n", "a", "1a",
		"\x00", "\xff", "\x01", "/", ":", "1:", "1/", "-/", "-:", "−1", "١",
		strings.Repeat("1", 1000), strings.Repeat("-", 1000), strings.Repeat("-1", 1000),
	}
}

func TestParseSignedOfOtherTexts(t *testing.T) {
	for _, s := range notSignedTexts() {
		if w, ok := impl.ParseSigned(s); ok || w != nil {
			t.Errorf("ParseSigned(%q) = %v, %v", s, w, ok)
		}
	}
}

func TestPromise70SignedOrdersAreReadBack(t *testing.T) {
	for _, w := range signedUpTo(impl.MaxSigned) {
		if v, ok := impl.ParseSigned(impl.SignedText(w)); !ok || !slices.Equal(v, w) {
			t.Fatalf("ParseSigned(%q) = %v, %v", impl.SignedText(w), v, ok)
		}
	}
}

func TestPromise71TextsOfSignedOrdersAreWrittenBack(t *testing.T) {
	texts := map[string]bool{}
	for _, w := range signedUpTo(impl.MaxSigned) {
		texts[signedTextOf(w)] = true
	}
	check := func(s string) {
		w, ok := impl.ParseSigned(s)
		if ok != texts[s] || !ok && w != nil || ok && impl.SignedText(w) != s {
			t.Fatalf("ParseSigned(%q) = %v, %v", s, w, ok)
		}
	}
	for s := range texts {
		check(s)
	}
	for n := range 7 {
		for _, s := range textsOf(n, "-0123/") {
			check(s)
		}
	}
	for a := range 256 {
		for b := range 256 {
			check(string([]byte{byte(a)}))
			check(string([]byte{byte(a), byte(b)}))
			check(string([]byte{byte(a), '-', byte(b)}))
			check(string([]byte{'-', byte(a), byte(b)}))
		}
	}
}
