package contour

import (
	"slices"

	"flyover/api"
	"flyover/check"
)

// checkBox returns ErrSpan for a box that is empty, or does not lie within a grid, or OK.
func checkBox(g Grid, b Box) api.Errno {
	return check.First(check.Span(b.Columns, g.Width), check.Span(b.Rows, g.Height))
}

// rows returns the energies of each row.
func (g Grid) rows() [][]int {
	return slices.Collect(slices.Chunk(g.Energies, g.Width))
}

// tile returns that by a box.
func (g Grid) tile(b Box) Grid {
	t := Grid{Width: b.Columns.To - b.Columns.From, Height: b.Rows.To - b.Rows.From}
	for _, row := range g.rows()[b.Rows.From:b.Rows.To] {
		t.Energies = append(t.Energies, row[b.Columns.From:b.Columns.To]...)
	}
	return t
}

// Tile returns the tile of a grid by a box.
func Tile(g Grid, b Box) (Grid, api.Errno) {
	if e := check.First(CheckGrid(g), checkBox(g, b)); e != api.OK {
		return Grid{}, e
	}
	return g.tile(b), api.OK
}

// laid returns the box of a tile that lies from a cell on.
func laid(tile Grid, at api.Point) Box {
	return Box{
		Columns: api.Span{From: at.X, To: at.X + tile.Width},
		Rows:    api.Span{From: at.Y, To: at.Y + tile.Height},
	}
}

// Overlaid returns a grid with a tile laid on it.
func Overlaid(g, tile Grid, at api.Point) (Grid, api.Errno) {
	b := laid(tile, at)
	if e := check.First(CheckGrid(g), CheckGrid(tile), checkCell(g, at), checkBox(g, b)); e != api.OK {
		return Grid{}, e
	}
	if !slices.Equal(g.tile(b).Energies, tile.Energies) {
		return Grid{}, api.ErrConflict
	}
	return g.copied(), api.OK
}

// Joined returns two grids side by side.
func Joined(a, b Grid) (Grid, api.Errno) {
	e := check.First(
		CheckGrid(a),
		CheckGrid(b),
		check.That(a.Height == b.Height, api.ErrShape),
		check.That(a.Width+b.Width <= MaxSide, api.ErrLarge),
	)
	if e != api.OK {
		return Grid{}, e
	}
	g := Grid{Width: a.Width + b.Width, Height: a.Height}
	right := b.rows()
	for y, left := range a.rows() {
		g.Energies = slices.Concat(g.Energies, left, right[y])
	}
	return g, api.OK
}
