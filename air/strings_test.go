package air_test

import (
	"fmt"
	"strings"
	"testing"

	"flyover/air"
	"flyover/api"
)

const twoString = "layer 100 340 0 0 900 950\nlayer 50 341 10 0 800 800\n"

// P3.4: strings of airs.
func TestPrint(t *testing.T) {
	s, e := air.Print(two())
	is(t, "Print", s, twoString)
	is(t, "error", e, api.OK)
	s, e = air.Print(changed(func(a []air.Layer) {
		a[0].Wind, a[0].Pass, a[1].Pass = api.Point{X: -100, Y: -1}, list(0, 0, 1, 1000), list(2, 3, 4, 5)
	}))
	is(t, "Print of two bands", s, "layer 100 340 -100 -1 0 0 1 1000\nlayer 50 341 10 0 2 3 4 5\n")
	is(t, "error", e, api.OK)
	s, e = air.Print(badAir())
	is(t, "Print of a bad air", s, "")
	is(t, "error", e, api.ErrOrder)
	s, e = air.Print(nil)
	is(t, "Print of nothing", s, "")
	is(t, "error", e, api.ErrEmpty)
}

// P3.4: airs of strings.
func TestParse(t *testing.T) {
	a, i, e := air.Parse(twoString)
	areAirs(t, "Parse", a, two())
	is(t, "index", i, 0)
	is(t, "error", e, api.OK)
	a, i, e = air.Parse("layer 1 2 -3 -100 0 0 1 1000\n")
	areAirs(t, "Parse of a line", a, []air.Layer{{Thickness: 1, Speed: 2, Wind: api.Point{X: -3, Y: -100}, Pass: list(0, 0, 1, 1000)}})
	is(t, "index", i, 0)
	is(t, "error", e, api.OK)
}

// P3.4: the first line with an error, and the errors of the air.
func TestParseErrors(t *testing.T) {
	const good = "layer 1 1 0 0 0 0\n"
	fill := good + "layer 1 1 0 0" + strings.Repeat(" 0", 2000)
	fill += strings.Repeat(" ", api.MaxText-len(fill))
	for _, x := range []struct {
		s  string
		at int
		e  api.Errno
	}{
		{"", 0, api.ErrEmpty}, {fill, 1, api.ErrSyntax}, {fill + " ", 0, api.ErrLong}, {strings.Repeat("\n", 4097), 0, api.ErrLong},
		{"\n", 0, api.ErrSyntax}, {"layer 1 1 0 0 0 0", 0, api.ErrSyntax}, {twoString[:len(twoString)-1], 1, api.ErrSyntax},
		{"layer\n", 0, api.ErrSyntax}, {"layer 1\n", 0, api.ErrSyntax}, {"layer 1 1\n", 0, api.ErrSyntax}, {"layer 1 1 0 0\n", 0, api.ErrSyntax},
		{"layer 1 1 0 0 0\n", 0, api.ErrSyntax}, {"layer 1 1 0 0 0 0 0\n", 0, api.ErrSyntax}, {"layer 1 1 0 0 0 0 0 0 0\n", 0, api.ErrSyntax},
		{"layers 1 1 0 0 0 0\n", 0, api.ErrSyntax}, {"Layer 1 1 0 0 0 0\n", 0, api.ErrSyntax}, {"1 1 0 0 0 0\n", 0, api.ErrSyntax},
		{" layer 1 1 0 0 0 0\n", 0, api.ErrSyntax}, {"layer  1 1 0 0 0 0\n", 0, api.ErrSyntax}, {"layer 1 1 0 0 0 0 \n", 0, api.ErrSyntax},
		{"layer 1 1 0 0 0 0\r\n", 0, api.ErrSyntax}, {"layer\t1 1 0 0 0 0\n", 0, api.ErrSyntax}, {"layer 1 1 0 0 0 x\n", 0, api.ErrSyntax},
		{"layer 1 1 -0 0 0 0\n", 0, api.ErrSyntax}, {"layer 1 1 +1 0 0 0\n", 0, api.ErrSyntax}, {"layer 1 1 --1 0 0 0\n", 0, api.ErrSyntax},
		{"layer 1 1 - 0 0 0\n", 0, api.ErrSyntax}, {"layer 01 1 0 0 0 0\n", 0, api.ErrSyntax}, {"layer 1 1 -01 0 0 0\n", 0, api.ErrSyntax},
		{"layer 1 1 00 0 0 0\n", 0, api.ErrSyntax}, {"layer 1 1 1_0 0 0 0\n", 0, api.ErrSyntax}, {"layer 1 1 0.0 0 0 0\n", 0, api.ErrSyntax},
		{"layer 1 1 \u0661 0 0 0\n", 0, api.ErrSyntax}, {"layer 1 1 \xff 0 0 0\n", 0, api.ErrSyntax},
		{"layer 1000000000 1 0 0 0 0\n", 0, api.ErrSyntax}, {"layer 1 1 -1000000000 0 0 0\n", 0, api.ErrSyntax},
		{"layer 1 1 99999999999999999999 0 0 0\n", 0, api.ErrSyntax},
		{good + "\n", 1, api.ErrSyntax}, {good + "\n" + good, 1, api.ErrSyntax}, {good + good + "x", 2, api.ErrSyntax},
		{"layer 0 1 0 0 0 0\nlayer x\n", 1, api.ErrSyntax}, {strings.Repeat(good, 9) + "x\n", 9, api.ErrSyntax},
		// Each line is right, but not the air.
		{"layer 999999999 1 0 0 0 0\n", 1, api.ErrRange}, {"layer 1 1 -999999999 0 0 0\n", 1, api.ErrRange}, {"layer -5 1 0 0 0 0\n", 1, api.ErrRange},
		{"layer 1 1 0 0 2 1\n", 1, api.ErrOrder}, {"layer 1 1 0 0 -1 0\n", 1, api.ErrRange}, {good + "layer 1 1 0 0 0 0 0 0\n", 2, api.ErrShape},
		{strings.Repeat(good, 8), 0, api.OK}, {strings.Repeat(good, 9), 9, api.ErrMany}, {"layer 1 1 0 0" + strings.Repeat(" 1", 16) + "\n", 0, api.OK},
		{"layer 1 1 0 0" + strings.Repeat(" 1", 18) + "\n" + good, 2, api.ErrMany}, {good + "layer 1 1 0 101 0 0\n", 2, api.ErrRange},
	} {
		a, i, e := air.Parse(x.s)
		is(t, fmt.Sprintf("error of Parse %.80q", x.s), e, x.e)
		is(t, fmt.Sprintf("index of Parse %.80q", x.s), i, x.at)
		is(t, fmt.Sprintf("an air of Parse %.80q", x.s), len(a) > 0, x.e == api.OK)
	}
}
