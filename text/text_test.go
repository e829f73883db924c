package text_test

import (
	"slices"
	"strings"
	"testing"

	"flyover/text"
)

// Lines are split after each line feed.
func TestLines(t *testing.T) {
	for _, x := range []struct {
		s    string
		want []string
	}{
		{"", nil}, {"\n", []string{"\n"}}, {"a", []string{"a"}}, {"a\n", []string{"a\n"}},
		{"a\nb", []string{"a\n", "b"}}, {"a\n\nb\n", []string{"a\n", "\n", "b\n"}},
	} {
		if got := text.Lines(x.s); !slices.Equal(got, x.want) {
			t.Errorf("Lines of %q: got %q, want %q", x.s, got, x.want)
		}
	}
}

// Words are split at each space, and taken one by one.
func TestWords(t *testing.T) {
	for _, x := range []struct {
		line  string
		words string
		ended bool
	}{{"a b\n", "a,b", true}, {"a b", "a,b", false}, {" a  b \n", ",a,,b,", true}, {"\n", "", true}, {"", "", false}, {"a\tb\r\n", "a\tb\r", true}} {
		w, ended := text.WordsOf(x.line)
		var got []string
		for w.Left() > 0 {
			got = append(got, w.Next())
		}
		if s := strings.Join(got, ","); s != x.words || ended != x.ended {
			t.Errorf("words of %q: got %q, %v", x.line, s, ended)
		}
		if s := w.Next(); s != "" {
			t.Errorf("a word after those of %q: %q", x.line, s)
		}
	}
}

// Integers are digits alone, without leading zeros.
func TestInteger(t *testing.T) {
	for _, x := range []struct {
		word string
		n    int
		ok   bool
	}{
		{"0", 0, true}, {"7", 7, true}, {"1090", 1090, true}, {"9999", 9999, true},
		{"", 0, false}, {"10000", 0, false}, {"00", 0, false}, {"07", 0, false},
		{"-1", 0, false}, {"+1", 0, false}, {"1 ", 0, false}, {"1_0", 0, false}, {"\xff", 0, false}, {"\u0661", 0, false},
	} {
		if n, ok := text.Integer(x.word, 4); n != x.n || ok != x.ok {
			t.Errorf("Integer of %q: got %v, %v", x.word, n, ok)
		}
	}
}

// Negative integers have one - in front, but 0 has none.
func TestSigned(t *testing.T) {
	for _, x := range []struct {
		word string
		n    int
		ok   bool
	}{
		{"0", 0, true}, {"7", 7, true}, {"-7", -7, true}, {"9999", 9999, true}, {"-9999", -9999, true}, {"-10", -10, true},
		{"", 0, false}, {"-", 0, false}, {"-0", 0, false}, {"--1", 0, false}, {"+1", 0, false}, {"-+1", 0, false}, {"1-", 0, false},
		{"07", 0, false}, {"-07", 0, false}, {"10000", 0, false}, {"-10000", 0, false}, {"- 1", 0, false}, {"\u22121", 0, false},
	} {
		if n, ok := text.Signed(x.word, 4); n != x.n || ok != x.ok {
			t.Errorf("Signed of %q: got %v, %v", x.word, n, ok)
		}
	}
}
