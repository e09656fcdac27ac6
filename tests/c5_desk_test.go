package tests

import (
	"slices"
	"strconv"
	"strings"
	"testing"

	"loop.example/ordercounts/impl"
)

// deskWords are the words that the desk answers for texts of orders, and those for texts of signed orders.
func deskWords() ([]string, []string) {
	return append(countNames(), "table", "foata", "line"), []string{"length", "flag"}
}

// deskAnswer returns the answer of a desk to one line.
func deskAnswer(t *testing.T, line string) string {
	t.Helper()
	answer, found := strings.CutSuffix(impl.RunDesk([]string{line}), "\n")
	if !found || strings.Contains(answer, "\n") {
		t.Fatalf("RunDesk of %q = %q", line, impl.RunDesk([]string{line}))
	}
	return answer
}

// textFor returns a text of digits for an order.
func textFor(p []int) string {
	text := ""
	for _, x := range p {
		text += strconv.Itoa(x)
	}
	return text
}

// commaText returns numbers with a comma between two.
func commaText(list []int) string {
	var texts []string
	for _, x := range list {
		texts = append(texts, strconv.Itoa(x))
	}
	return strings.Join(texts, ",")
}

func TestDeskAnswersForOrders(t *testing.T) {
	for _, p := range append(ordersUpTo(4), []int{6, 2, 0, 4, 5, 1, 3}, []int{6, 5, 4, 3, 2, 1, 0}) {
		text := textFor(p)
		want := map[string]string{
			"table": commaText(impl.TableOf(p)),
			"foata": textFor(impl.FoataMap(p)),
			"line":  textFor(impl.ToLine(p)),
		}
		for _, name := range countNames() {
			want[name] = strconv.Itoa(countOf(t, name, p))
		}
		words, _ := deskWords()
		for _, word := range words {
			if answer := deskAnswer(t, word+" "+text); answer != want[word] {
				t.Errorf("%q is answered by %q, not %q", word+" "+text, answer, want[word])
			}
		}
	}
}

func TestDeskAnswersForSignedOrders(t *testing.T) {
	for _, w := range append(signedUpTo(3), []int{4, -2, -5, 1, 3}, []int{-1, -2, -3, -4, -5}) {
		text := signedTextOf(w)
		if answer := deskAnswer(t, "length "+text); answer != strconv.Itoa(lengthAmong(w)) {
			t.Errorf("length of %q is answered by %q", text, answer)
		}
		if answer := deskAnswer(t, "flag "+text); answer != strconv.Itoa(flagAmong(w)) {
			t.Errorf("flag of %q is answered by %q", text, answer)
		}
	}
}

func TestKnownAnswersOfDesks(t *testing.T) {
	cases := []struct{ line, answer string }{
		{"inversions 2031", "3"},
		{"table 2031", "2,0,1,0"},
		{"table 0", "0"},
		{"table ", ""},
		{"foata 021", "201"},
		{"foata ", ""},
		{"line 21430", "13402"},
		{"line ", ""},
		{"inversions ", "0"},
		{"circles ", "0"},
		{"inversions 6543210", "21"},
		{"length ", "0"},
		{"flag ", "0"},
		{"length -1-2-3-4-5", "25"},
		{"flag -23-1", "6"},
		{"length 1234-", "wrong"},
		{"flag -", "wrong"},
		{"length 2031", "wrong"},
		{"major -1", "wrong"},
		{"major 22", "wrong"},
		{"table 01234567", "wrong"},
		{"foata 1", "wrong"},
		{"line a", "wrong"},
		{"line 0\n", "wrong"},
		{"line \t", "wrong"},
		{"table wrong", "wrong"},
		{"", "what"},
		{" ", "what"},
		{"  ", "what"},
		{"\n", "what"},
		{" 01", "what"},
		{"01", "what"},
		{"major", "what"},
		{"length", "what"},
		{"major01", "what"},
		{"major\t01", "what"},
		{"major  01", "what"},
		{"major  ", "what"},
		{"major 01 ", "what"},
		{"major 0 1", "what"},
		{" major 01", "what"},
		{"flag 1 ", "what"},
		{"Major 01", "what"},
		{"majors 01", "what"},
		{"major\n 01", "what"},
		{"walk 01", "what"},
		{"fixed 01", "what"},
		{"falls 1", "what"},
		{"negatives 1", "what"},
		{"rank 01", "what"},
		{"wrong 01", "what"},
		{"help", "what"},
	}
	for _, c := range cases {
		if answer := deskAnswer(t, c.line); answer != c.answer {
			t.Errorf("%q is answered by %q, not %q", c.line, answer, c.answer)
		}
	}
}

func TestDeskAnswersToOtherTexts(t *testing.T) {
	ofOrders, ofSigned := deskWords()
	for _, s := range []string{"1", "00", "02", "a", "-1", "0,1", "01234567", "0\x00", "wrong", "major"} {
		for _, word := range ofOrders {
			if answer := deskAnswer(t, word+" "+s); answer != "wrong" {
				t.Errorf("%q is answered by %q", word+" "+s, answer)
			}
		}
	}
	for _, s := range notSignedTexts() {
		want := "wrong"
		if strings.Contains(s, " ") {
			want = "what"
		}
		for _, word := range ofSigned {
			if answer := deskAnswer(t, word+" "+s); answer != want {
				t.Errorf("%q is answered by %q", word+" "+s, answer)
			}
		}
	}
}

// mixedLines returns n lines with answers of all kinds.
func mixedLines(n int) []string {
	some := []string{"major 2031", "table ", "walk 01", "flag -", "", "line 21430", "length -23-1", "major\n", "foata 0\n1", "table 210", " "}
	return slices.Repeat(some, n/len(some)+1)[:n]
}

func TestDesksOfTooManyLines(t *testing.T) {
	if out := impl.RunDesk(nil); out != "" {
		t.Errorf("RunDesk of no lines = %q", out)
	}
	if out := impl.RunDesk(make([]string, impl.MaxDesk)); out != strings.Repeat("what\n", impl.MaxDesk) {
		t.Errorf("RunDesk of %d lines = %q", impl.MaxDesk, out)
	}
	for _, n := range []int{impl.MaxDesk + 1, impl.MaxDesk + 2, 1000} {
		for _, lines := range [][]string{make([]string, n), mixedLines(n)} {
			if out := impl.RunDesk(lines); out != "" {
				t.Errorf("RunDesk of %d lines = %q", n, out)
			}
		}
	}
}

func TestPromise72EachLineHasAnAnswer(t *testing.T) {
	lines := mixedLines(impl.MaxDesk)
	all := impl.RunDesk(lines)
	want := ""
	for n := range len(lines) + 1 {
		out := impl.RunDesk(lines[:n])
		if strings.Count(out, "\n") != n || !strings.HasPrefix(all, out) || out != want {
			t.Errorf("RunDesk of %d lines = %q", n, out)
		}
		if n < len(lines) {
			want += deskAnswer(t, lines[n]) + "\n"
		}
	}
}
