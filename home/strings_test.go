package home_test

import (
	"fmt"
	"slices"
	"strings"
	"testing"

	"flyover/api"
	"flyover/home"
)

// small returns a home of which each number of its string is another one, and sampleString is this string.
func small() home.Home {
	return home.Home{Name: "s_1", People: 2, Windows: []home.Window{
		{Outside: api.Spectrum{1, 20, 3, 4, 5, 6, 7, 100000000}, Area: 9, Pass: [api.MaxBands]api.Interval{to(10, 11), to(12, 13), to(14, 15), to(16, 17), to(18, 19), to(20, 21), to(22, 23), to(0, 1000)}},
		{Area: 100},
	}}
}

const (
	zeros        = " 0 0 0 0 0 0 0 0 0 0 0 0 0 0 0 0 0 0 0 0 0 0 0 0"
	sampleString = "home s_1 2\nwindow 9 1 20 3 4 5 6 7 100000000 10 11 12 13 14 15 16 17 18 19 20 21 22 23 0 1000\nwindow 100" + zeros + "\n"
)

// P8.4: strings of homes.
func TestPrint(t *testing.T) {
	line := "window 100" + strings.Repeat(" 100000000", 8) + strings.Repeat(" 1000", 16) + "\n"
	for i, x := range []struct {
		h home.Home
		s string
	}{
		{small(), sampleString}, {home.Home{Name: "a", Windows: []home.Window{{Area: 1}}}, "home a 0\nwindow 1" + zeros + "\n"},
		{house(), "home h 3\nwindow 50 1000 2000 0 0 0 0 0 0" + strings.Repeat(" 100 200", 8) + "\nwindow 100 1000 2000 0 0 0 0 0 0" + strings.Repeat(" 10 20", 8) + "\n"}, {loudest(), "home " + strings.Repeat("a", 24) + " 1000\n" + strings.Repeat(line, 8)},
	} {
		s, e := home.Print(x.h)
		is(t, fmt.Sprint("Print ", i), s, x.s)
		is(t, "error of Print", e, api.OK)
		h, at, e := home.Parse(x.s)
		isHome(t, fmt.Sprint("Parse ", i), h, x.h)
		is(t, "index of Parse", at, 0)
		is(t, "error of Parse", e, api.OK)
	}
	inOrder(t, "Print", func(a arguments) (api.Errno, bool) {
		s, e := home.Print(a.home)
		return e, s == ""
	}, homeFaults())
}

// P8.4: the first line with an error, and the errors of the home.
func TestParseErrors(t *testing.T) {
	const first, window = "home a 1\n", "window 1" + zeros + "\n"
	for _, x := range []struct {
		s  string
		at int
		e  api.Errno
	}{
		{"", 0, api.ErrSyntax}, {strings.Repeat("x", 4096), 0, api.ErrSyntax}, {strings.Repeat("x", 4097), 0, api.ErrLong}, {strings.Repeat("\n", 4097), 0, api.ErrLong}, {first + strings.Repeat("x", 4096-len(first)), 1, api.ErrSyntax}, {first + strings.Repeat("x", 4097-len(first)), 0, api.ErrLong},
		{"\n", 0, api.ErrSyntax}, {"home a 1", 0, api.ErrSyntax}, {"home a\n", 0, api.ErrSyntax}, {"home\n", 0, api.ErrSyntax}, {"home 1\n", 0, api.ErrSyntax}, {"home  1\n", 0, api.ErrSyntax}, {"home a  1\n", 0, api.ErrSyntax}, {"home a 1 \n", 0, api.ErrSyntax}, {"home a 1 1\n", 0, api.ErrSyntax}, {"home a b 1\n", 0, api.ErrSyntax}, {" home a 1\n", 0, api.ErrSyntax}, {"Home a 1\n", 0, api.ErrSyntax}, {"homes a 1\n", 0, api.ErrSyntax}, {"a 1\n", 0, api.ErrSyntax},
		{"home a 01\n", 0, api.ErrSyntax}, {"home a 00\n", 0, api.ErrSyntax}, {"home a -1\n", 0, api.ErrSyntax}, {"home a +1\n", 0, api.ErrSyntax}, {"home a x\n", 0, api.ErrSyntax}, {"home a 1.0\n", 0, api.ErrSyntax}, {"home a \u0661\n", 0, api.ErrSyntax}, {"home a 1\r\n", 0, api.ErrSyntax}, {"home\ta 1\n", 0, api.ErrSyntax}, {"home a 1000000000\n" + window, 0, api.ErrSyntax}, {"home a 999999999\n" + window, 2, api.ErrRange},
		{window, 0, api.ErrSyntax}, {window + first, 0, api.ErrSyntax}, {"\n" + first + window, 0, api.ErrSyntax}, {first + first + window, 1, api.ErrSyntax}, {first + window + first, 2, api.ErrSyntax}, {first + window + "\n", 2, api.ErrSyntax}, {first + "\n" + window, 1, api.ErrSyntax}, {first + window + "x", 2, api.ErrSyntax}, {first + window + " ", 2, api.ErrSyntax},
		{first + "window\n", 1, api.ErrSyntax}, {first + "window 1\n", 1, api.ErrSyntax}, {first + "window" + zeros + "\n", 1, api.ErrSyntax}, {first + "window 1 0" + zeros + "\n", 1, api.ErrSyntax}, {first + "window 1" + zeros, 1, api.ErrSyntax}, {first + "window 1" + zeros + " \n", 1, api.ErrSyntax}, {first + "window  1" + zeros + "\n", 1, api.ErrSyntax}, {first + " window 1" + zeros + "\n", 1, api.ErrSyntax}, {first + "Window 1" + zeros + "\n", 1, api.ErrSyntax}, {first + "windows 1" + zeros + "\n", 1, api.ErrSyntax}, {first + "window a" + zeros + "\n", 1, api.ErrSyntax}, {first + "window a 1" + zeros + "\n", 1, api.ErrSyntax},
		{first + "window 01" + zeros + "\n", 1, api.ErrSyntax}, {first + "window -1" + zeros + "\n", 1, api.ErrSyntax}, {first + "window 1000000000" + zeros + "\n", 1, api.ErrSyntax}, {first + "window 1" + zeros[:46] + " 00\n", 1, api.ErrSyntax}, {first + "window 1" + zeros[:46] + " -0\n", 1, api.ErrSyntax}, {first + "window 1" + zeros[:46] + " 9999999999\n", 1, api.ErrSyntax},
		// Each line is right, but not the home; a line that is wrong comes before it.
		{first, 1, api.ErrEmpty}, {"home 1 1\n", 1, api.ErrName}, {"home 1 1\nx\n", 1, api.ErrSyntax}, {"home \xff 1\n" + window, 2, api.ErrName}, {"home a\tb 1\n" + window, 2, api.ErrName}, {"home " + strings.Repeat("a", 25) + " 1\n" + window, 2, api.ErrName}, {"home a 1001\n" + window, 2, api.ErrRange}, {first + strings.Repeat(window, 9), 10, api.ErrMany}, {first + strings.Repeat(window, 9) + "x", 10, api.ErrSyntax},
		{first + "window 0" + zeros + "\n", 2, api.ErrRange}, {first + "window 999999999" + zeros + "\n" + window, 3, api.ErrRange}, {first + "window 1" + zeros[:46] + " 1001\n", 2, api.ErrRange}, {first + "window 1 100000001" + zeros[:46] + "\n", 2, api.ErrRange}, {first + "window 1" + zeros[:44] + " 1 0\n", 2, api.ErrOrder}, {first + window + "window 1" + zeros[:44] + " 1 0\n" + window, 4, api.ErrOrder},
	} {
		h, at, e := home.Parse(x.s)
		is(t, fmt.Sprintf("error of Parse %.80q", x.s), e, x.e)
		is(t, fmt.Sprintf("index of Parse %.80q", x.s), at, x.at)
		is(t, fmt.Sprintf("nothing of Parse %.80q", x.s), isNothing(h), true)
	}
	h, at, e := home.Parse(first + strings.Repeat(window, 8))
	isHome(t, "Parse of eight windows", h, home.Home{Name: "a", People: 1, Windows: slices.Repeat([]home.Window{{Area: 1}}, 8)})
	is(t, "index of Parse of eight windows", at, 0)
	is(t, "error of Parse of eight windows", e, api.OK)
}
