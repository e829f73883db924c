package contour_test

import (
	"fmt"
	"math"
	"testing"

	"flyover/api"
	"flyover/contour"
)

// P6.4: tiles of a grid.
func TestTile(t *testing.T) {
	for i, x := range []struct {
		b    contour.Box
		tile contour.Grid
		e    api.Errno
	}{
		{box(1, 3, 0, 1), grid(2, 1, 100, 100), api.OK}, {box(0, 1, 0, 2), grid(1, 2, 10, 9), api.OK}, {box(0, 3, 0, 2), shown(), api.OK}, {box(1, 3, 0, 2), grid(2, 2, 100, 100, 10, 1000), api.OK}, {box(2, 3, 1, 2), grid(1, 1, 1000), api.OK}, {box(0, 3, 1, 2), grid(3, 1, 9, 10, 1000), api.OK},
		{box(1, 1, 0, 1), contour.Grid{}, api.ErrSpan}, {box(0, 1, 1, 1), contour.Grid{}, api.ErrSpan}, {box(2, 1, 0, 1), contour.Grid{}, api.ErrSpan}, {box(0, 1, 1, 0), contour.Grid{}, api.ErrSpan}, {box(0, 0, 0, 0), contour.Grid{}, api.ErrSpan},
		{box(0, 4, 0, 1), contour.Grid{}, api.ErrSpan}, {box(0, 1, 0, 3), contour.Grid{}, api.ErrSpan}, {box(-1, 1, 0, 1), contour.Grid{}, api.ErrSpan}, {box(0, 1, -1, 1), contour.Grid{}, api.ErrSpan}, {box(3, 4, 0, 1), contour.Grid{}, api.ErrSpan}, {box(0, 1, 2, 3), contour.Grid{}, api.ErrSpan},
		{box(math.MinInt, math.MaxInt, 0, 1), contour.Grid{}, api.ErrSpan}, {box(0, 1, math.MaxInt, math.MinInt), contour.Grid{}, api.ErrSpan},
	} {
		g, e := contour.Tile(shown(), x.b)
		isGrid(t, fmt.Sprint("Tile ", i), g, x.tile)
		is(t, fmt.Sprint("error of Tile ", i), e, x.e)
	}
	r := seeded()
	for range 500 {
		g := anyGrid(r)
		b := someBox(r, g)
		tile, e := contour.Tile(g, b)
		is(t, "error of Tile", e, api.OK)
		is(t, "CheckGrid of a tile", contour.CheckGrid(tile), api.OK)
		is(t, "the width", tile.Width, b.Columns.To-b.Columns.From)
		is(t, "the height", tile.Height, b.Rows.To-b.Rows.From)
		for i, c := range cellsOf(tile) {
			n, _ := contour.At(g, at(b.Columns.From+c.X, b.Rows.From+c.Y))
			is(t, "the energy of a cell of a tile", tile.Energies[i], n)
		}
	}
}

// P6.4: grids with a tile laid on them.
func TestOverlaid(t *testing.T) {
	for i, x := range []struct {
		tile contour.Grid
		cell api.Point
		e    api.Errno
	}{
		{grid(2, 1, 100, 100), at(1, 0), api.OK}, {shown(), at(0, 0), api.OK}, {grid(1, 1, 1000), at(2, 1), api.OK}, {grid(2, 1, 9, 10), at(0, 1), api.OK}, {grid(1, 2, 100, 10), at(1, 0), api.OK}, {grid(1, 2, 100, 1000), at(2, 0), api.OK},
		{grid(2, 1, 100, 101), at(1, 0), api.ErrConflict}, {grid(2, 1, 100, 100), at(0, 0), api.ErrConflict}, {grid(1, 1, 1000), at(1, 1), api.ErrConflict}, {grid(1, 2, 100, 10), at(2, 0), api.ErrConflict}, {grid(2, 1, 100, 10), at(1, 0), api.ErrConflict},
		{grid(2, 1, 100, 100), at(2, 0), api.ErrSpan}, {grid(1, 2, 9, 9), at(0, 1), api.ErrSpan}, {shown(), at(1, 0), api.ErrSpan}, {even(4, 2, 1), at(0, 0), api.ErrSpan}, {even(3, 3, 1), at(0, 0), api.ErrSpan},
		{grid(2, 1, 100, 100), at(3, 0), api.ErrUnknown}, {grid(2, 1, 100, 100), at(1, 2), api.ErrUnknown}, {grid(2, 1, 100, 100), at(-1, 0), api.ErrUnknown}, {even(9, 9, 1), at(0, -1), api.ErrUnknown}, {shown(), at(math.MinInt, 0), api.ErrUnknown}, {shown(), at(math.MaxInt, math.MaxInt), api.ErrUnknown},
		{grid(1, 1, -1), at(3, 0), api.ErrRange}, {grid(1, 2, 1), at(3, 0), api.ErrShape}, {grid(0, 0), at(0, 0), api.ErrRange},
	} {
		g, e := contour.Overlaid(shown(), x.tile, x.cell)
		want := contour.Grid{}
		if x.e == api.OK {
			want = shown()
		}
		isGrid(t, fmt.Sprint("Overlaid ", i), g, want)
		is(t, fmt.Sprint("error of Overlaid ", i), e, x.e)
	}
	_, e := contour.Overlaid(badGrid(), grid(1, 1, -1), at(9, 9))
	is(t, "error of Overlaid of a wrong grid", e, api.ErrShape)
}

// P6.4: grids that are joined.
func TestJoined(t *testing.T) {
	const most = api.MaxEnergy
	for i, x := range []struct {
		a, b, g contour.Grid
		e       api.Errno
	}{
		{grid(1, 2, 10, 9), grid(2, 2, 100, 100, 10, 1000), shown(), api.OK}, {grid(2, 2, 10, 100, 9, 10), grid(1, 2, 100, 1000), shown(), api.OK}, {grid(1, 1, 0), grid(1, 1, most), grid(2, 1, 0, most), api.OK},
		{even(8, 16, 5), even(8, 16, 5), even(16, 16, 5), api.OK}, {even(15, 1, 5), even(1, 1, 5), even(16, 1, 5), api.OK}, {even(1, 3, 5), even(15, 3, 5), even(16, 3, 5), api.OK},
		{grid(1, 1, 1), shown(), contour.Grid{}, api.ErrShape}, {shown(), even(3, 3, 1), contour.Grid{}, api.ErrShape}, {even(16, 1, 1), even(16, 2, 1), contour.Grid{}, api.ErrShape},
		{even(14, 2, 0), shown(), contour.Grid{}, api.ErrLarge}, {even(16, 1, 0), even(1, 1, 0), contour.Grid{}, api.ErrLarge}, {even(16, 16, 0), even(16, 16, 0), contour.Grid{}, api.ErrLarge},
		{grid(1, 2, 1), grid(0, 0), contour.Grid{}, api.ErrShape}, {grid(1, 1, -1), grid(1, 2, 1), contour.Grid{}, api.ErrRange}, {grid(1, 2, 1, 1), grid(1, 1, -1), contour.Grid{}, api.ErrRange}, {even(16, 1, 1), grid(17, 1), contour.Grid{}, api.ErrRange},
	} {
		g, e := contour.Joined(x.a, x.b)
		isGrid(t, fmt.Sprint("Joined ", i), g, x.g)
		is(t, fmt.Sprint("error of Joined ", i), e, x.e)
	}
}
