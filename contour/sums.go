package contour

import (
	"flyover/api"
	"flyover/check"
	"flyover/list"
	"flyover/number"
	"flyover/sound"
)

// checkSizes returns ErrShape for two grids of different sizes, or OK.
func checkSizes(a, b Grid) api.Errno {
	return check.That(a.size() == b.size(), api.ErrShape)
}

// checkGrids returns the first error of grids, or OK.
func checkGrids(l []Grid) api.Errno {
	if e := check.Count(l, MaxMaps); e != api.OK {
		return e
	}
	return check.Each(l, func(g Grid) api.Errno { return check.First(CheckGrid(g), checkSizes(l[0], g)) })
}

// energiesAt returns those of all grids in the cell with an index.
func energiesAt(l []Grid, i int) []int {
	return list.Mapped(l, func(g Grid) int { return g.Energies[i] })
}

// added returns the sum of grids, or ErrLarge.
func added(l []Grid) (Grid, api.Errno) {
	sum := l[0].copied()
	for i := range sum.cells() {
		n, e := sound.Sum(energiesAt(l, i))
		if e != api.OK {
			return Grid{}, e
		}
		sum.Energies[i] = n
	}
	return sum, api.OK
}

// Added returns the sum of grids.
func Added(l []Grid) (Grid, api.Errno) {
	if e := checkGrids(l); e != api.OK {
		return Grid{}, e
	}
	return added(l)
}

// Shares returns the share of each grid in a cell.
func Shares(l []Grid, cell api.Point) ([]api.Ratio, api.Errno) {
	if e := checkGrids(l); e != api.OK {
		return nil, e
	}
	if e := checkCell(l[0], cell); e != api.OK {
		return nil, e
	}
	parts := energiesAt(l, l[0].index(cell))
	sum, e := sound.Sum(parts)
	if no := check.First(e, check.That(sum > 0, api.ErrZero)); no != api.OK {
		return nil, no
	}
	return list.Mapped(parts, func(n int) api.Ratio { return number.Ratio(n, sum) }), api.OK
}

// Loudest returns the loudest grid in each cell.
func Loudest(l []Grid) ([]int, api.Errno) {
	if e := checkGrids(l); e != api.OK {
		return nil, e
	}
	loudest := make([]int, l[0].cells())
	for i := range loudest {
		most, grid, _ := sound.Maximum(energiesAt(l, i))
		if most == 0 {
			grid = None
		}
		loudest[i] = grid
	}
	return loudest, api.OK
}

// Without returns the cells that leave a level without one of the grids.
func Without(l []Grid, index, level int) ([]api.Point, api.Errno) {
	if e := check.First(checkGrids(l), check.Index(l, index), checkLevel(level)); e != api.OK {
		return nil, e
	}
	sum, e := added(l)
	if e != api.OK {
		return nil, e
	}
	var cells []api.Point
	for i, energy := range sum.Energies {
		rest := energy - l[index].Energies[i]
		if levelOf(energy) >= level && levelOf(rest) < level {
			cells = append(cells, sum.cell(i))
		}
	}
	return cells, api.OK
}

// Difference returns the level of each cell of the second grid less that of the first one.
func Difference(a, b Grid) ([]int, api.Errno) {
	if e := check.First(CheckGrid(a), CheckGrid(b), checkSizes(a, b)); e != api.OK {
		return nil, e
	}
	l := b.levels()
	for i, level := range a.levels() {
		l[i] -= level
	}
	return l, api.OK
}
