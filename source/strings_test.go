package source_test

import (
	"fmt"
	"strings"
	"testing"

	"flyover/api"
	"flyover/source"
)

const jetString = "type jet 500\nshares 600 400\ndirect 1000 1000 1000 1000 500 500 500 500\nsquares 0 100\npower 10 1000 400\npower 20 2000 600\n"

// P2.4: strings of types.
func TestPrint(t *testing.T) {
	s, e := source.Print(jet())
	is(t, "Print", s, jetString)
	is(t, "error", e, api.OK)
	s, e = source.Print(badType())
	is(t, "Print of a bad type", s, "")
	is(t, "error", e, api.ErrRule)
	s, e = source.Print(source.Type{})
	is(t, "Print of no type", s, "")
	is(t, "error", e, api.ErrName)
}

// P2.4: types of strings.
func TestParse(t *testing.T) {
	x, i, e := source.Parse(jetString)
	areTypes(t, "Parse", x, jet())
	is(t, "index", i, 0)
	is(t, "error", e, api.OK)
	x, i, e = source.Parse("type a 0\nshares 1000\ndirect 0 0 0 0 0 0 0 0\nsquares 0\npower 1 5\n")
	areTypes(t, "Parse of the least", x, source.Type{Name: "a", Shares: []int{1000}, Squares: []int{0}, Settings: []source.Setting{{Power: 1, Energies: []int{5}}}})
	is(t, "index", i, 0)
	is(t, "error", e, api.OK)
}

// P2.4: the first line with an error, and the errors of the type.
func TestParseErrors(t *testing.T) {
	const shares = "type a 0\nshares 1000\n"
	const direct = shares + "direct 0 0 0 0 0 0 0 0\n"
	const squares = direct + "squares 0\n"
	fill := squares + "power 1 5\npower 2" + strings.Repeat(" 0", 2000)
	fill += strings.Repeat(" ", api.MaxText-len(fill))
	for _, x := range []struct {
		s  string
		at int
		e  api.Errno
	}{
		{fill, 5, api.ErrSyntax}, {fill + " ", 0, api.ErrLong}, {strings.Repeat("\n", 4097), 0, api.ErrLong},
		{"", 0, api.ErrSyntax}, {"\n", 0, api.ErrSyntax}, {"type a 0", 0, api.ErrSyntax}, {"type a 0\n", 1, api.ErrSyntax},
		{shares, 2, api.ErrSyntax}, {direct, 3, api.ErrSyntax}, {squares, 4, api.ErrEmpty},
		{"type a\n", 0, api.ErrSyntax}, {"type 0\n", 0, api.ErrSyntax}, {"type  0\n", 0, api.ErrSyntax},
		{"type a 0 0\n", 0, api.ErrSyntax}, {"type a b\n", 0, api.ErrSyntax}, {"type a 0 \n", 0, api.ErrSyntax},
		{" type a 0\n", 0, api.ErrSyntax}, {"types a 0\n", 0, api.ErrSyntax}, {"Type a 0\n", 0, api.ErrSyntax},
		{"type a 0\r\n", 0, api.ErrSyntax}, {"type\ta\t0\n", 0, api.ErrSyntax}, {"type a -1\n", 0, api.ErrSyntax},
		{"type a +1\n", 0, api.ErrSyntax}, {"type a 01\n", 0, api.ErrSyntax}, {"type a 1_0\n", 0, api.ErrSyntax},
		{"type a \u0661\n", 0, api.ErrSyntax}, {"type a 1000000000000\n", 0, api.ErrSyntax},
		{"type a 99999999999999999999\n", 0, api.ErrSyntax}, {"type a 999999999999\n", 1, api.ErrSyntax},
		{"shares 1000\n", 0, api.ErrSyntax}, {"type a 0\ndirect 0\n", 1, api.ErrSyntax}, {"type a 0\n\n", 1, api.ErrSyntax},
		{"type a 0\nshares \n", 1, api.ErrSyntax}, {"type a 0\nshares 1  1\n", 1, api.ErrSyntax},
		{"type a 0\nshares\n", 2, api.ErrSyntax}, {"type a 0\nshares 1000", 1, api.ErrSyntax},
		{shares + "direct 0 0 0 0 0 0 0\n", 2, api.ErrSyntax}, {shares + "direct 0 0 0 0 0 0 0 0 0\n", 2, api.ErrSyntax},
		{shares + "direct\n", 2, api.ErrSyntax}, {direct + "squares 00\n", 3, api.ErrSyntax}, {direct + "power 1\n", 3, api.ErrSyntax},
		{squares + "power\n", 4, api.ErrSyntax}, {squares + "squares 0\n", 4, api.ErrSyntax}, {squares + "power 1 5", 4, api.ErrSyntax},
		{squares + "power 1 5\n\n", 5, api.ErrSyntax}, {squares + "power 0\npower 0x\n", 5, api.ErrSyntax},
		// Each line is right, but not the type.
		{squares + "power 1\n", 5, api.ErrShape}, {squares + "power 1 5\npower 1 5\n", 6, api.ErrOrder},
		{squares + "power 999999999999 5\n", 5, api.ErrRange}, {squares + strings.Repeat("power 0\n", 7), 11, api.ErrMany},
		{strings.Replace(squares, "a 0", "\xff 0", 1) + "power 1 5\n", 5, api.ErrName},
		{strings.Replace(squares, "a 0", "a 1001", 1), 4, api.ErrRange},
		{strings.Replace(squares, "shares 1000", "shares", 1), 4, api.ErrEmpty},
		{strings.Replace(squares, "shares 1000", "shares 1", 1), 4, api.ErrForm},
		{strings.Replace(squares, "squares 0", "squares", 1), 4, api.ErrEmpty},
		{strings.Replace(squares, "squares 0", "squares 1", 1), 4, api.ErrOrder},
		{strings.Replace(squares, "squares 0", "squares"+strings.Repeat(" 0", 2000), 1), 4, api.ErrMany},
		{strings.Replace(jetString, "600\n", "399\n", 1), 6, api.ErrRule},
	} {
		y, i, e := source.Parse(x.s)
		is(t, fmt.Sprintf("error of Parse %.80q", x.s), e, x.e)
		is(t, fmt.Sprintf("index of Parse %.80q", x.s), i, x.at)
		areTypes(t, "type beside the error", y, source.Type{})
	}
}
