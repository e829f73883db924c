package contour

import (
	"cmp"
	"slices"

	"flyover/api"
	"flyover/check"
	"flyover/list"
	"flyover/sound"
)

// cells returns how many a grid has.
func (g Grid) cells() int { return g.Width * g.Height }

// cell returns the one with an index.
func (g Grid) cell(i int) api.Point {
	return api.Point{X: i % g.Width, Y: i / g.Width}
}

// index returns that of a cell.
func (g Grid) index(cell api.Point) int {
	return cell.Y*g.Width + cell.X
}

// has reports whether a grid has a cell.
func (g Grid) has(cell api.Point) bool {
	return cell.X >= 0 && cell.X < g.Width && cell.Y >= 0 && cell.Y < g.Height
}

// size returns the width and the height of a grid.
func (g Grid) size() [2]int {
	return [2]int{g.Width, g.Height}
}

// copied returns a grid that shares no memory with another one.
func (g Grid) copied() Grid {
	g.Energies = slices.Clone(g.Energies)
	return g
}

// CheckGrid returns the first error of a grid, or OK.
func CheckGrid(g Grid) api.Errno {
	return check.First(
		check.Within(g.Width, 1, MaxSide),
		check.Within(g.Height, 1, MaxSide),
		check.That(len(g.Energies) == g.cells(), api.ErrShape),
		check.Each(g.Energies, sound.CheckEnergy),
	)
}

// checkCell returns ErrUnknown for a cell that a grid does not have, or OK.
func checkCell(g Grid, cell api.Point) api.Errno {
	return check.That(g.has(cell), api.ErrUnknown)
}

func checkLevel(level int) api.Errno {
	return check.Within(level, 0, api.MaxLevel)
}

// At returns the energy of a cell.
func At(g Grid, cell api.Point) (int, api.Errno) {
	if e := check.First(CheckGrid(g), checkCell(g, cell)); e != api.OK {
		return 0, e
	}
	return g.Energies[g.index(cell)], api.OK
}

// levelOf returns the level of an energy.
func levelOf(energy int) int {
	level, _ := sound.Level(energy)
	return level
}

// levels returns those of all cells.
func (g Grid) levels() []int {
	return list.Mapped(g.Energies, levelOf)
}

// Levels returns the levels of all cells.
func Levels(g Grid) ([]int, api.Errno) {
	if e := CheckGrid(g); e != api.OK {
		return nil, e
	}
	return g.levels(), api.OK
}

// above reports for each cell whether it is within a level.
func (g Grid) above(level int) []bool {
	return list.Mapped(g.levels(), func(own int) bool { return own >= level })
}

// Above reports for each cell whether it is within a level.
func Above(g Grid, level int) ([]bool, api.Errno) {
	if e := check.First(CheckGrid(g), checkLevel(level)); e != api.OK {
		return nil, e
	}
	return g.above(level), api.OK
}

// heard is a cell with its energy.
type heard struct {
	api.Point
	energy int
}

// compare says which of two cells is ranked first: that with the greater energy, of two with the same one the first one.
func (x heard) compare(y heard) int {
	return cmp.Or(cmp.Compare(y.energy, x.energy), cmp.Compare(x.Y, y.Y), cmp.Compare(x.X, y.X))
}

// ranked returns all cells, those with the greatest energies first.
func (g Grid) ranked() []heard {
	l := make([]heard, g.cells())
	for i := range g.cells() {
		l[i] = heard{g.cell(i), g.Energies[i]}
	}
	slices.SortFunc(l, heard.compare)
	return l
}

// Hottest returns the n cells with the greatest energies.
func Hottest(g Grid, n int) ([]api.Point, api.Errno) {
	if e := check.First(CheckGrid(g), check.Within(n, 1, g.cells())); e != api.OK {
		return nil, e
	}
	return list.Mapped(g.ranked()[:n], func(x heard) api.Point { return x.Point }), api.OK
}
