package text_test

import (
	"slices"
	"strings"
	"testing"

	"flyover/api"
	"flyover/text"
)

// Lines are split after each line feed.
func TestLines(t *testing.T) {
	for _, x := range []struct {
		s    string
		want []string
	}{
		{"", nil}, {"\n", []string{"\n"}}, {"a", []string{"a"}}, {"a\n", []string{"a\n"}},
		{"a\nb", []string{"a\n", "b"}}, {"a\n\nb\n", []string{"a\n", "\n", "b\n"}},
	} {
		if got := text.Lines(x.s); !slices.Equal(got, x.want) {
			t.Errorf("Lines of %q: got %q, want %q", x.s, got, x.want)
		}
	}
}

// Words are split at each space, and taken one by one.
func TestWords(t *testing.T) {
	for _, x := range []struct {
		line  string
		words string
		ended bool
	}{{"a b\n", "a,b", true}, {"a b", "a,b", false}, {" a  b \n", ",a,,b,", true}, {"\n", "", true}, {"", "", false}, {"a\tb\r\n", "a\tb\r", true}} {
		w, ended := text.WordsOf(x.line)
		var got []string
		for w.Left() > 0 {
			got = append(got, w.Next())
		}
		if s := strings.Join(got, ","); s != x.words || ended != x.ended {
			t.Errorf("words of %q: got %q, %v", x.line, s, ended)
		}
		if s := w.Next(); s != "" {
			t.Errorf("a word after those of %q: %q", x.line, s)
		}
	}
}

// A line feed does not end the words of a string.
func TestWordsIn(t *testing.T) {
	for _, x := range []struct{ s, words string }{{"a b\n", "a,b\n"}, {"a b", "a,b"}, {" a  b ", ",a,,b,"}, {"\n", "\n"}, {"", ""}} {
		w := text.WordsIn(x.s)
		var got []string
		for w.Left() > 0 {
			got = append(got, w.Next())
		}
		if s := strings.Join(got, ","); s != x.words {
			t.Errorf("words in %q: got %q", x.s, s)
		}
	}
}

// Integers are digits alone, without leading zeros.
func TestInteger(t *testing.T) {
	for _, x := range []struct {
		word string
		n    int
		ok   bool
	}{
		{"0", 0, true}, {"7", 7, true}, {"1090", 1090, true}, {"9999", 9999, true},
		{"", 0, false}, {"10000", 0, false}, {"00", 0, false}, {"07", 0, false},
		{"-1", 0, false}, {"+1", 0, false}, {"1 ", 0, false}, {"1_0", 0, false}, {"\xff", 0, false}, {"\u0661", 0, false},
	} {
		if n, ok := text.Integer(x.word, 4); n != x.n || ok != x.ok {
			t.Errorf("Integer of %q: got %v, %v", x.word, n, ok)
		}
	}
}

// Negative integers have one - in front, but 0 has none.
func TestSigned(t *testing.T) {
	for _, x := range []struct {
		word string
		n    int
		ok   bool
	}{
		{"0", 0, true}, {"7", 7, true}, {"-7", -7, true}, {"9999", 9999, true}, {"-9999", -9999, true}, {"-10", -10, true},
		{"", 0, false}, {"-", 0, false}, {"-0", 0, false}, {"--1", 0, false}, {"+1", 0, false}, {"-+1", 0, false}, {"1-", 0, false},
		{"07", 0, false}, {"-07", 0, false}, {"10000", 0, false}, {"-10000", 0, false}, {"- 1", 0, false}, {"\u22121", 0, false},
	} {
		if n, ok := text.Signed(x.word, 4); n != x.n || ok != x.ok {
			t.Errorf("Signed of %q: got %v, %v", x.word, n, ok)
		}
	}
}

// All words that are left are integers, or the numbers are none.
func TestNumbers(t *testing.T) {
	for _, x := range []struct {
		line string
		read func(word string, digits int) (int, bool)
		l    []int
		ok   bool
	}{
		{"a 1 22 3\n", text.Integer, []int{1, 22, 3}, true}, {"a\n", text.Integer, nil, true}, {"a \n", text.Integer, nil, false},
		{"a 1 x\n", text.Integer, nil, false}, {"a -1\n", text.Integer, nil, false}, {"a -1 2\n", text.Signed, []int{-1, 2}, true},
		{"a 100\n", text.Integer, nil, false}, {"a -100 1\n", text.Signed, nil, false},
	} {
		w, _ := text.WordsOf(x.line)
		w.Next()
		if l, ok := w.Numbers(x.read, 2); ok != x.ok || !slices.Equal(l, x.l) {
			t.Errorf("numbers of %q: got %v, %v", x.line, l, ok)
		}
	}
}

// All lines are read, up to the first one that is wrong.
func TestRead(t *testing.T) {
	full := strings.Repeat("a\n", api.MaxText/2)
	for _, x := range []struct {
		s    string
		want string
		n    int
		e    api.Errno
	}{
		{"", "", 0, api.OK}, {"a\nb\n", "ab", 2, api.OK}, {"a\nb", "", 1, api.ErrSyntax}, {"a\n\nb\n", "", 1, api.ErrSyntax}, {"ab\nc\n", "", 0, api.ErrSyntax},
		{full, strings.Repeat("a", api.MaxText/2), api.MaxText / 2, api.OK}, {full + "x", "", 0, api.ErrLong},
	} {
		l, n, e := text.Read(x.s, letter)
		if got := strings.Join(l, ""); got != x.want || n != x.n || e != x.e {
			t.Errorf("Read of %.20q: got %.20q, %d, %d", x.s, got, n, e)
		}
	}
}

// The words of a line are separated by one space.
func TestLine(t *testing.T) {
	for _, x := range []struct{ got, want string }{
		{text.Line("a"), "a\n"}, {text.Line("a b", 1), "a b 1\n"}, {text.Line("a", 0, -7, 12), "a 0 -7 12\n"},
	} {
		if x.got != x.want {
			t.Errorf("Line: got %q, want %q", x.got, x.want)
		}
	}
}

// A line has a word and an integer, and nothing else.
func TestNumber(t *testing.T) {
	for _, x := range []struct {
		line string
		n    int
		ok   bool
	}{
		{"a 0\n", 0, true}, {"a 42\n", 42, true}, {"a 100\n", 0, false}, {"a 042\n", 0, false}, {"a -1\n", 0, false}, {"a 1", 0, false}, {"a\n", 0, false},
		{"b 1\n", 0, false}, {"a  1\n", 0, false}, {"a 1 \n", 0, false}, {" a 1\n", 0, false}, {"a 1 1\n", 0, false}, {"a \n", 0, false}, {"\n", 0, false}, {"", 0, false},
	} {
		if n, ok := text.Number(x.line, "a", 2); n != x.n || ok != x.ok {
			t.Errorf("Number of %q: got %d, %v", x.line, n, ok)
		}
	}
}

// A line has a word and any number of integers, and nothing else.
func TestIntegers(t *testing.T) {
	for _, x := range []struct {
		line string
		read func(word string, digits int) (int, bool)
		l    []int
		ok   bool
	}{
		{"a 1 0 42\n", text.Integer, []int{1, 0, 42}, true}, {"a\n", text.Integer, nil, true}, {"a -7 42\n", text.Signed, []int{-7, 42}, true}, {"a -7\n", text.Integer, nil, false},
		{"a 100\n", text.Integer, nil, false}, {"a 1 \n", text.Integer, nil, false}, {"a  1\n", text.Integer, nil, false}, {" a 1\n", text.Integer, nil, false}, {"a 1", text.Integer, nil, false}, {"a 1 b\n", text.Signed, nil, false},
		{"b 1\n", text.Integer, nil, false}, {"ab 1\n", text.Integer, nil, false}, {"a\t1\n", text.Integer, nil, false}, {"a 1\r\n", text.Integer, nil, false}, {"\n", text.Integer, nil, false}, {"", text.Integer, nil, false},
	} {
		if l, ok := text.Integers(x.line, "a", x.read, 2); !slices.Equal(l, x.l) || ok != x.ok {
			t.Errorf("Integers of %q: got %v, %v", x.line, l, ok)
		}
	}
}

// A line has a first word, so many words, and any number of integers, and nothing else.
func TestFields(t *testing.T) {
	for _, x := range []struct {
		line  string
		words int
		read  func(word string, digits int) (int, bool)
		l     []string
		n     []int
		ok    bool
	}{
		{"a b 1 0\n", 1, text.Integer, []string{"b"}, []int{1, 0}, true}, {"a b c -42\n", 2, text.Signed, []string{"b", "c"}, []int{-42}, true}, {"a b c\n", 2, text.Integer, []string{"b", "c"}, nil, true}, {"a\n", 0, text.Integer, nil, nil, true}, {"a 1\n", 0, text.Integer, nil, []int{1}, true}, {"a 1 2\n", 1, text.Integer, []string{"1"}, []int{2}, true}, {"a a\t 7\n", 1, text.Integer, []string{"a\t"}, []int{7}, true},
		{"a b\n", 2, text.Integer, nil, nil, false}, {"a\n", 1, text.Integer, nil, nil, false}, {"a \n", 1, text.Integer, nil, nil, false}, {"a  b 1\n", 2, text.Integer, nil, nil, false}, {"a  1\n", 1, text.Integer, nil, nil, false}, {"a b  1\n", 2, text.Integer, nil, nil, false}, {"a b c 1\n", 1, text.Integer, nil, nil, false}, {"a b 1 c\n", 1, text.Integer, nil, nil, false},
		{"a b 1", 1, text.Integer, nil, nil, false}, {"a b 1 \n", 1, text.Integer, nil, nil, false}, {" a b 1\n", 1, text.Integer, nil, nil, false}, {"b a 1\n", 1, text.Integer, nil, nil, false}, {"a b 100\n", 1, text.Integer, nil, nil, false}, {"a b -1\n", 1, text.Integer, nil, nil, false}, {"a b 01\n", 1, text.Signed, nil, nil, false}, {"", 0, text.Integer, nil, nil, false}, {"\n", 1, text.Integer, nil, nil, false},
	} {
		if l, n, ok := text.Fields(x.line, "a", x.words, x.read, 2); !slices.Equal(l, x.l) || !slices.Equal(n, x.n) || ok != x.ok {
			t.Errorf("Fields of %q: got %q, %v, %v", x.line, l, n, ok)
		}
	}
}

// Words that are left are so many words and any number of integers, and none is left then.
func TestFieldsLeft(t *testing.T) {
	for _, x := range []struct {
		s     string
		words int
		l     []string
		n     []int
		ok    bool
	}{
		{"a b 1 42", 1, []string{"b"}, []int{1, 42}, true}, {"a", 0, nil, nil, true}, {"a b\n", 1, []string{"b\n"}, nil, true},
		{"a", 1, nil, nil, false}, {"a ", 0, nil, nil, false}, {"a b ", 1, nil, nil, false}, {"a  b", 2, nil, nil, false}, {"a b 100", 1, nil, nil, false}, {"a b 1\n", 1, nil, nil, false}, {"a b c", 1, nil, nil, false},
	} {
		w := text.WordsIn(x.s)
		w.Next()
		if l, n, ok := w.Fields(x.words, text.Integer, 2); !slices.Equal(l, x.l) || !slices.Equal(n, x.n) || ok != x.ok {
			t.Errorf("fields of %q: got %q, %v, %v", x.s, l, n, ok)
		} else if ok && w.Left() != 0 {
			t.Errorf("words after the fields of %q: %d", x.s, w.Left())
		}
	}
}

// The ends of intervals stand one after the other, and intervals come back from them.
func TestEndsAndIntervals(t *testing.T) {
	for _, x := range []struct {
		l    []api.Interval
		ends []int
	}{
		{nil, nil}, {[]api.Interval{{Low: 3, High: 7}}, []int{3, 7}}, {[]api.Interval{{Low: 2, High: 2}, {Low: -1, High: 0}, {Low: 5, High: 4}}, []int{2, 2, -1, 0, 5, 4}},
	} {
		if got := text.Ends(x.l); !slices.Equal(got, x.ends) {
			t.Errorf("ends of %v: got %v", x.l, got)
		}
		if got := text.Intervals(x.ends); !slices.Equal(got, x.l) {
			t.Errorf("intervals of %v: got %v", x.ends, got)
		}
	}
}

// letter reads a letter alone.
func letter(line string) (string, bool) {
	return line[:1], len(line) == 2 && line[0] >= 'a' && line[1] == '\n'
}

// digit reads a digit alone.
func digit(line string) (int, bool) {
	if len(line) != 2 || line[0] > '9' || line[1] != '\n' {
		return 0, false
	}
	return int(line[0] - '0'), true
}

// The line 0 is read by one function, and all others by another one; Counted also compares their number.
func TestHeadedAndCounted(t *testing.T) {
	full := "2\n" + strings.Repeat("a\n", api.MaxText/2-1)
	for _, x := range []struct {
		s       string
		head    int
		want    string
		n       int
		e       api.Errno
		counted api.Errno
	}{
		{"2\na\nb\n", 2, "ab", 3, api.OK, api.OK}, {"0\n", 0, "", 1, api.OK, api.OK}, {"1\na\nb\n", 1, "ab", 3, api.OK, api.ErrShape}, {"3\na\nb\n", 3, "ab", 3, api.OK, api.ErrShape}, {"1\n", 1, "", 1, api.OK, api.ErrShape},
		{"", 0, "", 0, api.ErrSyntax, api.ErrSyntax}, {"\n", 0, "", 0, api.ErrSyntax, api.ErrSyntax}, {"1", 0, "", 0, api.ErrSyntax, api.ErrSyntax}, {"a\n", 0, "", 0, api.ErrSyntax, api.ErrSyntax},
		{"1\n1\n", 0, "", 1, api.ErrSyntax, api.ErrSyntax}, {"1\na", 0, "", 1, api.ErrSyntax, api.ErrSyntax}, {"2\na\n\n", 0, "", 2, api.ErrSyntax, api.ErrSyntax}, {"9\na\nb", 0, "", 2, api.ErrSyntax, api.ErrSyntax},
		{full, 2, strings.Repeat("a", api.MaxText/2-1), api.MaxText / 2, api.OK, api.ErrShape}, {full + "a", 0, "", 0, api.ErrLong, api.ErrLong}, {strings.Repeat("x", api.MaxText+1), 0, "", 0, api.ErrLong, api.ErrLong},
	} {
		head, l, n, e := text.Headed(x.s, digit, letter)
		if got := strings.Join(l, ""); head != x.head || got != x.want || n != x.n || e != x.e {
			t.Errorf("Headed of %.20q: got %d, %.20q, %d, %d", x.s, head, got, n, e)
		}
		l, n, e = text.Counted(x.s, digit, letter)
		want := x.want
		if x.counted != api.OK {
			want = ""
		}
		if got := strings.Join(l, ""); got != want || n != x.n || e != x.counted {
			t.Errorf("Counted of %.20q: got %.20q, %d, %d", x.s, got, n, e)
		}
	}
}

// The line 0 ends with the first line feed, also where there is nothing before it.
func TestHeadedByNothing(t *testing.T) {
	empty := func(line string) (string, bool) { return line, line == "\n" }
	if head, l, n, e := text.Headed("\na\n", empty, letter); head != "\n" || len(l) != 1 || n != 2 || e != api.OK {
		t.Errorf("Headed: got %q, %q, %d, %d", head, l, n, e)
	}
}

// Lines are joined, up to the longest string.
func TestJoined(t *testing.T) {
	full := strings.Repeat("a", api.MaxText-2)
	for _, x := range []struct {
		lines []string
		want  string
		e     api.Errno
	}{
		{nil, "", api.OK}, {[]string{"a\n", "b\n"}, "a\nb\n", api.OK}, {[]string{"a\n", full}, "a\n" + full, api.OK}, {[]string{"aa\n", full}, "", api.ErrLong},
	} {
		if s, e := text.Joined(x.lines); s != x.want || e != x.e {
			t.Errorf("Joined: got %.20q, %d", s, e)
		}
	}
}
