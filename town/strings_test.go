package town_test

import (
	"fmt"
	"strings"
	"testing"

	"flyover/api"
	"flyover/town"
)

const (
	screenString = "wall w 0 -10 0 10 6 500\n"
	lastString   = "wall " + longName + " -1000 1000 1000 -1000 1000 0\n"
	longName     = "abcdefghijklmnopqrstuvwX"
)

// lastWall returns the wall of lastString.
func lastWall() town.Wall {
	return town.Wall{Name: longName, A: point(-1000, 1000), B: point(1000, -1000), Height: 1000}
}

// P4.4: strings of walls.
func TestPrint(t *testing.T) {
	for i, x := range []struct {
		l []town.Wall
		s string
		e api.Errno
	}{
		{[]town.Wall{screen(6)}, screenString, api.OK}, {[]town.Wall{screen(6), lastWall()}, screenString + lastString, api.OK}, {[]town.Wall{lastWall(), screen(6)}, lastString + screenString, api.OK},
		{nil, "", api.OK}, {[]town.Wall{screen(6), screen(6)}, "", api.ErrTwice}, {[]town.Wall{badWall()}, "", api.ErrConflict}, {make([]town.Wall, 33), "", api.ErrMany},
	} {
		s, e := town.Print(x.l)
		is(t, fmt.Sprint("Print ", i), s, x.s)
		is(t, fmt.Sprint("error of Print ", i), e, x.e)
	}
	// The longest string of walls.
	var l []town.Wall
	for i := range 32 {
		l = append(l, town.Wall{Name: longName[1:] + string(rune('A'+i%26+i/26*32)), A: point(-1000, -1000), B: point(-1000, -999), Height: 1000, Echo: 1000})
	}
	s, e := town.Print(l)
	is(t, "error of Print of many", e, api.OK)
	is(t, "bytes of many", len(s), 2048-32)
	back, i, e := town.Parse(s)
	are(t, "Parse of many", back, l)
	is(t, "index", i, 0)
	is(t, "error of Parse of many", e, api.OK)
}

// P4.4: walls of strings.
func TestParse(t *testing.T) {
	for _, x := range []struct {
		s string
		l []town.Wall
	}{
		{"", nil}, {screenString, []town.Wall{screen(6)}}, {screenString + lastString, []town.Wall{screen(6), lastWall()}},
	} {
		l, i, e := town.Parse(x.s)
		are(t, fmt.Sprintf("Parse %q", x.s), l, x.l)
		is(t, "index", i, 0)
		is(t, "error", e, api.OK)
	}
}

// P4.4: the first line with an error, and the errors of the walls.
func TestParseErrors(t *testing.T) {
	const good = screenString
	fill := good + "wall w 0 0 1 1 5" + strings.Repeat(" 0", 2000)
	fill += strings.Repeat(" ", api.MaxText-len(fill))
	var many strings.Builder
	for i := range 33 {
		many.WriteString(fmt.Sprintf("wall w%d 0 0 1 1 5 0\n", i))
	}
	for _, x := range []struct {
		s  string
		at int
		e  api.Errno
	}{
		{fill, 1, api.ErrSyntax}, {fill + " ", 0, api.ErrLong}, {strings.Repeat("\n", 4097), 0, api.ErrLong}, {strings.Repeat("\n", 4096), 0, api.ErrSyntax},
		{"\n", 0, api.ErrSyntax}, {good[:len(good)-1], 0, api.ErrSyntax}, {good + "x", 1, api.ErrSyntax}, {good + "\n", 1, api.ErrSyntax}, {good + "\n" + good, 1, api.ErrSyntax},
		{"wall\n", 0, api.ErrSyntax}, {"wall w\n", 0, api.ErrSyntax}, {"wall w 0 0 1 1 5\n", 0, api.ErrSyntax}, {"wall w 0 0 1 1 5 0 0\n", 0, api.ErrSyntax}, {"wall 0 0 1 1 5 0\n", 0, api.ErrSyntax},
		{"wall  0 0 1 1 5 0\n", 0, api.ErrSyntax}, {"wall  w 0 0 1 1 5 0\n", 0, api.ErrSyntax}, {" wall w 0 0 1 1 5 0\n", 0, api.ErrSyntax}, {"wall w 0 0 1 1 5 0 \n", 0, api.ErrSyntax},
		{"walls w 0 0 1 1 5 0\n", 0, api.ErrSyntax}, {"Wall w 0 0 1 1 5 0\n", 0, api.ErrSyntax}, {"w 0 0 1 1 5 0\n", 0, api.ErrSyntax}, {"wall\tw 0 0 1 1 5 0\n", 0, api.ErrSyntax},
		{"wall w 0 0 1 1 5 0\r\n", 0, api.ErrSyntax}, {"wall w 0 0 1 1 5 x\n", 0, api.ErrSyntax}, {"wall w -0 0 1 1 5 0\n", 0, api.ErrSyntax}, {"wall w +0 0 1 1 5 0\n", 0, api.ErrSyntax},
		{"wall w - 0 1 1 5 0\n", 0, api.ErrSyntax}, {"wall w --1 0 1 1 5 0\n", 0, api.ErrSyntax}, {"wall w 00 0 1 1 5 0\n", 0, api.ErrSyntax}, {"wall w 01 0 1 1 5 0\n", 0, api.ErrSyntax},
		{"wall w -01 0 1 1 5 0\n", 0, api.ErrSyntax}, {"wall w 0 0 1 1 5 1000000000\n", 0, api.ErrSyntax}, {"wall w 0 0 1 1 5 -1000000000\n", 0, api.ErrSyntax},
		{"wall w 0 0 1 1 5 99999999999999999999\n", 0, api.ErrSyntax}, {"wall w 0 0 1 1 5 \u0661\n", 0, api.ErrSyntax}, {"wall w 0 0 1 1 5 \xff\n", 0, api.ErrSyntax},
		// A wrong line is found before a wrong wall.
		{"wall w 0 0 0 0 5 0\nwall\n", 1, api.ErrSyntax}, {many.String() + "x\n", 33, api.ErrSyntax},
		// Each line is right, but not the walls.
		{"wall w 0 0 0 0 5 0\n", 1, api.ErrConflict}, {"wall 0 0 0 1 1 5 0\n", 1, api.ErrName}, {"wall \xff 0 0 1 1 5 0\n", 1, api.ErrName}, {"wall a\tb 0 0 1 1 5 0\n", 1, api.ErrName},
		{"wall w 999999999 0 1 1 5 0\n", 1, api.ErrRange}, {"wall w 0 -999999999 1 1 5 0\n", 1, api.ErrRange}, {"wall w 0 0 1 1 0 0\n", 1, api.ErrRange}, {"wall w 0 0 1 1 5 -1\n", 1, api.ErrRange},
		{good + good, 2, api.ErrTwice}, {many.String(), 33, api.ErrMany}, {good + lastString + "wall v 0 0 1 1 5 1001\n", 3, api.ErrRange}, {many.String()[:strings.LastIndex(many.String(), "wall")], 0, api.OK},
	} {
		l, i, e := town.Parse(x.s)
		is(t, fmt.Sprintf("error of Parse %.80q", x.s), e, x.e)
		is(t, fmt.Sprintf("index of Parse %.80q", x.s), i, x.at)
		is(t, fmt.Sprintf("walls of Parse %.80q", x.s), len(l) > 0, x.e == api.OK)
	}
}
