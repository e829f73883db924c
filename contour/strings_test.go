package contour_test

import (
	"fmt"
	"strings"
	"testing"

	"flyover/api"
	"flyover/contour"
)

const shownString = "grid 3 2\nrow 10 100 100\nrow 9 10 1000\n"

// greatestString is the longest string of a grid.
var greatestString = "grid 16 16\n" + strings.Repeat("row"+strings.Repeat(" 10000000000000", 16)+"\n", 16)

// P6.4: strings of grids.
func TestPrint(t *testing.T) {
	is(t, "the longest string has at most 4000 bytes", len(greatestString) <= 4000, true)
	for i, x := range []struct {
		g contour.Grid
		s string
		e api.Errno
	}{
		{shown(), shownString, api.OK}, {grid(1, 1, 0), "grid 1 1\nrow 0\n", api.OK}, {grid(1, 2, 7, api.MaxEnergy), "grid 1 2\nrow 7\nrow 10000000000000\n", api.OK}, {grid(2, 1, 7, 0), "grid 2 1\nrow 7 0\n", api.OK},
		{even(16, 16, api.MaxEnergy), greatestString, api.OK}, {badGrid(), "", api.ErrShape}, {grid(0, 0), "", api.ErrRange}, {grid(1, 1, -1), "", api.ErrRange},
	} {
		s, e := contour.Print(x.g)
		is(t, fmt.Sprint("Print ", i), s, x.s)
		is(t, fmt.Sprint("error of Print ", i), e, x.e)
		if x.e != api.OK {
			continue
		}
		g, at, e := contour.Parse(x.s)
		isGrid(t, fmt.Sprint("Parse ", i), g, x.g)
		is(t, fmt.Sprint("index of Parse ", i), at, 0)
		is(t, fmt.Sprint("error of Parse ", i), e, api.OK)
	}
}

// P6.4: the first line with an error, and the errors of the grid.
func TestParseErrors(t *testing.T) {
	full := "grid 1 1\n" + strings.Repeat("row 1\n", 681)
	is(t, "bytes of a string that is nearly too long", len(full), 4095)
	for _, x := range []struct {
		s  string
		at int
		e  api.Errno
	}{
		{full, 682, api.ErrShape}, {full + "r", 682, api.ErrSyntax}, {full + "\n", 682, api.ErrSyntax}, {full + "\n\n", 0, api.ErrLong}, {strings.Repeat("\n", 4096), 0, api.ErrSyntax}, {strings.Repeat("\n", 4097), 0, api.ErrLong},
		{"", 0, api.ErrSyntax}, {"\n", 0, api.ErrSyntax}, {"grid 1 1", 0, api.ErrSyntax}, {"grid\n", 0, api.ErrSyntax}, {"grid 1\nrow 5\n", 0, api.ErrSyntax}, {"grid 1 1 1\nrow 5\n", 0, api.ErrSyntax}, {"grid 1 1 \nrow 5\n", 0, api.ErrSyntax},
		{"grid  1 1\n", 0, api.ErrSyntax}, {" grid 1 1\n", 0, api.ErrSyntax}, {"Grid 1 1\n", 0, api.ErrSyntax}, {"grids 1 1\n", 0, api.ErrSyntax}, {"grid 01 1\n", 0, api.ErrSyntax}, {"grid 1 -1\n", 0, api.ErrSyntax}, {"grid 1 +1\n", 0, api.ErrSyntax}, {"grid 1 x\n", 0, api.ErrSyntax},
		{"grid 1\t1\n", 0, api.ErrSyntax}, {"grid 1 1\r\n", 0, api.ErrSyntax}, {"grid 1 \u0661\n", 0, api.ErrSyntax}, {"grid 1 100000000000000\n", 0, api.ErrSyntax}, {"grid 1 99999999999999999999\n", 0, api.ErrSyntax},
		{"row 5\n", 0, api.ErrSyntax}, {"row 1 1\nrow 5\n", 0, api.ErrSyntax}, {"\ngrid 1 1\nrow 5\n", 0, api.ErrSyntax}, {"grid x x\nrow x\n", 0, api.ErrSyntax},
		{"grid 1 1\nrow 5", 1, api.ErrSyntax}, {"grid 1 1\nrow\n", 1, api.ErrSyntax}, {"grid 1 1\nrow \n", 1, api.ErrSyntax}, {"grid 1 1\nrow 05\n", 1, api.ErrSyntax}, {"grid 1 1\nrow 00\n", 1, api.ErrSyntax}, {"grid 1 1\nrow -5\n", 1, api.ErrSyntax}, {"grid 1 1\nrow 5 \n", 1, api.ErrSyntax},
		{"grid 1 1\nrow  5\n", 1, api.ErrSyntax}, {"grid 1 1\nrows 5\n", 1, api.ErrSyntax}, {"grid 1 1\nROW 5\n", 1, api.ErrSyntax}, {"grid 1 1\n row 5\n", 1, api.ErrSyntax}, {"grid 1 1\nrow 5\r\n", 1, api.ErrSyntax}, {"grid 1 1\n5\n", 1, api.ErrSyntax}, {"grid 1 1\nrow 1_0\n", 1, api.ErrSyntax},
		{"grid 1 1\nrow 100000000000000\n", 1, api.ErrSyntax}, {"grid 1 1\ngrid 1 1\n", 1, api.ErrSyntax}, {"grid 1 1\n\n", 1, api.ErrSyntax}, {"grid 1 1\n\nrow 5\n", 1, api.ErrSyntax}, {"grid 0 0\nrow\n", 1, api.ErrSyntax},
		{"grid 1 1\nrow 5\n\n", 2, api.ErrSyntax}, {"grid 1 1\nrow 5\nrow", 2, api.ErrSyntax}, {"grid 9 9\nrow 5\nrow 1 x\nrow\n", 2, api.ErrSyntax}, {"grid 1 2\nrow 99999999999999\nrow 5 x\n", 2, api.ErrSyntax},
		// Each line is right, but not the grid.
		{"grid 1 1\n", 1, api.ErrShape}, {"grid 1 1\nrow 5\nrow 5\n", 3, api.ErrShape}, {"grid 1 2\nrow 5\n", 2, api.ErrShape}, {"grid 2 1\nrow 5\n", 2, api.ErrShape}, {"grid 1 1\nrow 5 5\n", 2, api.ErrShape}, {"grid 2 2\nrow 1 1\nrow 1\n", 3, api.ErrShape},
		// As many energies as cells, but in the wrong rows.
		{"grid 2 2\nrow 1 1 1\nrow 1\n", 3, api.ErrShape}, {"grid 2 2\nrow 1 1 1 1\n", 2, api.ErrShape}, {"grid 1 2\nrow 99999999999999\nrow 1 1\n", 3, api.ErrShape}, {"grid 0 1\nrow 5\n", 2, api.ErrShape}, {"grid 99999999999999 99999999999999\n", 1, api.ErrShape}, {"grid 17 1\nrow 5\n", 2, api.ErrShape},
		{"grid 0 0\n", 1, api.ErrRange}, {"grid 1 0\n", 1, api.ErrRange}, {"grid 99 0\n", 1, api.ErrRange}, {"grid 17 1\nrow" + strings.Repeat(" 5", 17) + "\n", 2, api.ErrRange}, {"grid 1 17\n" + strings.Repeat("row 5\n", 17), 18, api.ErrRange},
		{"grid 1 1\nrow 10000000000001\n", 2, api.ErrRange}, {"grid 1 2\nrow 5\nrow 99999999999999\n", 3, api.ErrRange},
	} {
		g, at, e := contour.Parse(x.s)
		is(t, fmt.Sprintf("error of Parse %.60q", x.s), e, x.e)
		is(t, fmt.Sprintf("index of Parse %.60q", x.s), at, x.at)
		isGrid(t, "grid beside the error", g, contour.Grid{})
	}
}
