package text_test

import (
	"slices"
	"strings"
	"testing"

	"flyover/api"
	"flyover/text"
)

// Lines are split after each line feed.
func TestLines(t *testing.T) {
	for _, x := range []struct {
		s    string
		want []string
	}{
		{"", nil}, {"\n", []string{"\n"}}, {"a", []string{"a"}}, {"a\n", []string{"a\n"}},
		{"a\nb", []string{"a\n", "b"}}, {"a\n\nb\n", []string{"a\n", "\n", "b\n"}},
	} {
		if got := text.Lines(x.s); !slices.Equal(got, x.want) {
			t.Errorf("Lines of %q: got %q, want %q", x.s, got, x.want)
		}
	}
}

// Words are split at each space, and taken one by one.
func TestWords(t *testing.T) {
	for _, x := range []struct {
		line  string
		words string
		ended bool
	}{{"a b\n", "a,b", true}, {"a b", "a,b", false}, {" a  b \n", ",a,,b,", true}, {"\n", "", true}, {"", "", false}, {"a\tb\r\n", "a\tb\r", true}} {
		w, ended := text.WordsOf(x.line)
		var got []string
		for w.Left() > 0 {
			got = append(got, w.Next())
		}
		if s := strings.Join(got, ","); s != x.words || ended != x.ended {
			t.Errorf("words of %q: got %q, %v", x.line, s, ended)
		}
		if s := w.Next(); s != "" {
			t.Errorf("a word after those of %q: %q", x.line, s)
		}
	}
}

// Integers are digits alone, without leading zeros.
func TestInteger(t *testing.T) {
	for _, x := range []struct {
		word string
		n    int
		ok   bool
	}{
		{"0", 0, true}, {"7", 7, true}, {"1090", 1090, true}, {"9999", 9999, true},
		{"", 0, false}, {"10000", 0, false}, {"00", 0, false}, {"07", 0, false},
		{"-1", 0, false}, {"+1", 0, false}, {"1 ", 0, false}, {"1_0", 0, false}, {"\xff", 0, false}, {"\u0661", 0, false},
	} {
		if n, ok := text.Integer(x.word, 4); n != x.n || ok != x.ok {
			t.Errorf("Integer of %q: got %v, %v", x.word, n, ok)
		}
	}
}

// Negative integers have one - in front, but 0 has none.
func TestSigned(t *testing.T) {
	for _, x := range []struct {
		word string
		n    int
		ok   bool
	}{
		{"0", 0, true}, {"7", 7, true}, {"-7", -7, true}, {"9999", 9999, true}, {"-9999", -9999, true}, {"-10", -10, true},
		{"", 0, false}, {"-", 0, false}, {"-0", 0, false}, {"--1", 0, false}, {"+1", 0, false}, {"-+1", 0, false}, {"1-", 0, false},
		{"07", 0, false}, {"-07", 0, false}, {"10000", 0, false}, {"-10000", 0, false}, {"- 1", 0, false}, {"\u22121", 0, false},
	} {
		if n, ok := text.Signed(x.word, 4); n != x.n || ok != x.ok {
			t.Errorf("Signed of %q: got %v, %v", x.word, n, ok)
		}
	}
}

// All words that are left are integers, or the numbers are none.
func TestNumbers(t *testing.T) {
	for _, x := range []struct {
		line string
		read func(word string, digits int) (int, bool)
		l    []int
		ok   bool
	}{
		{"a 1 22 3\n", text.Integer, []int{1, 22, 3}, true}, {"a\n", text.Integer, nil, true}, {"a \n", text.Integer, nil, false},
		{"a 1 x\n", text.Integer, nil, false}, {"a -1\n", text.Integer, nil, false}, {"a -1 2\n", text.Signed, []int{-1, 2}, true},
		{"a 100\n", text.Integer, nil, false}, {"a -100 1\n", text.Signed, nil, false},
	} {
		w, _ := text.WordsOf(x.line)
		w.Next()
		if l, ok := w.Numbers(x.read, 2); ok != x.ok || !slices.Equal(l, x.l) {
			t.Errorf("numbers of %q: got %v, %v", x.line, l, ok)
		}
	}
}

// All lines are read, up to the first one that is wrong.
func TestRead(t *testing.T) {
	letter := func(line string) (string, bool) { return line[:1], len(line) == 2 && line[1] == '\n' }
	full := strings.Repeat("a\n", api.MaxText/2)
	for _, x := range []struct {
		s    string
		want string
		n    int
		e    api.Errno
	}{
		{"", "", 0, api.OK}, {"a\nb\n", "ab", 2, api.OK}, {"a\nb", "", 1, api.ErrSyntax}, {"a\n\nb\n", "", 1, api.ErrSyntax}, {"ab\nc\n", "", 0, api.ErrSyntax},
		{full, strings.Repeat("a", api.MaxText/2), api.MaxText / 2, api.OK}, {full + "x", "", 0, api.ErrLong},
	} {
		l, n, e := text.Read(x.s, letter)
		if got := strings.Join(l, ""); got != x.want || n != x.n || e != x.e {
			t.Errorf("Read of %.20q: got %.20q, %d, %d", x.s, got, n, e)
		}
	}
}
