package contour_test

import (
	"math/rand"
	"slices"
	"testing"

	"flyover/api"
	"flyover/contour"
)

// is compares a result with the expected one.
func is[T comparable](t *testing.T, what string, got, want T) {
	t.Helper()
	if got != want {
		t.Errorf("%s: got %v, want %v", what, got, want)
	}
}

// are compares a list with the expected one; nil and empty lists are equal.
func are[T comparable](t *testing.T, what string, got, want []T) {
	t.Helper()
	if !slices.Equal(got, want) {
		t.Errorf("%s: got %v, want %v", what, got, want)
	}
}

// isGrid compares a grid with the expected one.
func isGrid(t *testing.T, what string, got, want contour.Grid) {
	t.Helper()
	is(t, "the width of "+what, got.Width, want.Width)
	is(t, "the height of "+what, got.Height, want.Height)
	are(t, what, got.Energies, want.Energies)
}

// areRings compares polygons with the expected ones.
func areRings(t *testing.T, what string, got, want []contour.Polygon) {
	t.Helper()
	if !slices.EqualFunc(got, want, slices.Equal) {
		t.Errorf("%s: got %v, want %v", what, got, want)
	}
}

// seeded returns numbers that are the same in each run.
func seeded() *rand.Rand { return rand.New(rand.NewSource(1)) }

// from returns an integer from low to high.
func from(r *rand.Rand, low, high int) int { return low + r.Intn(high-low+1) }

func of(low, high int) api.Interval { return api.Interval{Low: low, High: high} }

func at(x, y int) api.Point { return api.Point{X: x, Y: y} }

func ratio(num, den int) api.Ratio { return api.Ratio{Num: num, Den: den} }

func grid(width, height int, l ...int) contour.Grid {
	return contour.Grid{Width: width, Height: height, Energies: l}
}

// even returns a grid with one energy.
func even(width, height, energy int) contour.Grid {
	return grid(width, height, alike(width*height, energy)...)
}

func alike[T any](n int, x T) []T { return slices.Repeat([]T{x}, n) }

// box returns the box of the columns from x to xx, and the rows from y to yy.
func box(x, xx, y, yy int) contour.Box {
	return contour.Box{Columns: api.Span{From: x, To: xx}, Rows: api.Span{From: y, To: yy}}
}

// shown returns the grid G of the document's examples.
func shown() contour.Grid { return grid(3, 2, 10, 100, 100, 9, 10, 1000) }

// badGrid returns a grid with an error that cells, levels and boxes do not have, ErrShape.
func badGrid() contour.Grid { return grid(3, 2, 10) }

// ring returns the polygon with corners, of which each has two integers.
func ring(l ...int) contour.Polygon {
	var p contour.Polygon
	for c := range slices.Chunk(l, 2) {
		p = append(p, at(c[0], c[1]))
	}
	return p
}

// rings returns polygons.
func rings(l ...contour.Polygon) []contour.Polygon { return l }

// square returns the polygon around the cells from x, y on, before xx, yy.
func square(x, y, xx, yy int) contour.Polygon { return ring(x, y, xx, y, xx, yy, x, yy) }

// cellsOf returns the cells of a grid, by their indices.
func cellsOf(g contour.Grid) []api.Point {
	var l []api.Point
	for y := range g.Height {
		for x := range g.Width {
			l = append(l, at(x, y))
		}
	}
	return l
}

// thresholds has those of the first levels, by the tens.
var thresholds = []int{10, 13, 16, 20, 25, 32, 40, 50, 63, 79}

// levelOf returns the level of an energy, counted upwards.
func levelOf(energy int) int {
	level := -1
	for tens := 1; ; tens *= 10 {
		for _, n := range thresholds {
			if energy < n*tens {
				return level
			}
			level++
		}
	}
}

// someEnergy returns an energy; many are around thresholds, or the same.
func someEnergy(r *rand.Rand) int {
	switch r.Intn(5) {
	case 0:
		return r.Intn(api.MaxEnergy + 1)
	case 1:
		return 0
	}
	tens := []int{1, 10, 100, 1000000}[r.Intn(4)]
	return max(0, thresholds[r.Intn(10)]*tens-r.Intn(2))
}

// someGrid returns a grid of a size.
func someGrid(r *rand.Rand, width, height int) contour.Grid {
	g := grid(width, height)
	for range width * height {
		g.Energies = append(g.Energies, someEnergy(r))
	}
	return g
}

// anyGrid returns a grid of any size.
func anyGrid(r *rand.Rand) contour.Grid {
	return someGrid(r, from(r, 1, contour.MaxSide), from(r, 1, contour.MaxSide))
}

// pattern returns a grid whose cells have the energy 10 where the bits of a number are set, and otherwise 9.
func pattern(width, height, bits int) contour.Grid {
	g := even(width, height, 9)
	for i := range g.Energies {
		g.Energies[i] += bits >> i & 1
	}
	return g
}

// blots returns a grid whose cells have the energy 10 in so many percent, and otherwise 9.
func blots(r *rand.Rand, width, height, percent int) contour.Grid {
	g := even(width, height, 9)
	for i := range g.Energies {
		if r.Intn(100) < percent {
			g.Energies[i] = 10
		}
	}
	return g
}

// someGrids returns up to n grids of one size, whose sums are energies.
func someGrids(r *rand.Rand, n int) []contour.Grid {
	width, height := from(r, 1, 8), from(r, 1, 8)
	var l []contour.Grid
	for range from(r, 1, n) {
		g := someGrid(r, width, height)
		for i := range g.Energies {
			g.Energies[i] = min(g.Energies[i], api.MaxEnergy/contour.MaxMaps)
		}
		l = append(l, g)
	}
	return l
}

// somePeople returns those of so many cells.
func somePeople(r *rand.Rand, n int) []api.Interval {
	var l []api.Interval
	for range n {
		low := r.Intn(contour.MaxPeople + 1)
		l = append(l, of(low, from(r, low, contour.MaxPeople)))
	}
	return l
}

// someLevels returns levels of classes.
func someLevels(r *rand.Rand) []int {
	l := r.Perm(api.MaxLevel + 1)[:from(r, 1, contour.MaxClasses)]
	slices.Sort(l)
	return l
}

// someBox returns a box within a grid.
func someBox(r *rand.Rand, g contour.Grid) contour.Box {
	x, y := r.Intn(g.Width), r.Intn(g.Height)
	return box(x, from(r, x+1, g.Width), y, from(r, y+1, g.Height))
}

// someRing returns a polygon whose sides are level or upright; they may cross, and lie on each other.
func someRing(r *rand.Rand) contour.Polygon {
	p := ring(r.Intn(17), r.Intn(17))
	for range from(r, 1, 6) {
		last := p[len(p)-1]
		corner := at(r.Intn(17), r.Intn(17))
		p = append(p, at(corner.X, last.Y), corner)
	}
	return append(p, at(p[0].X, p[len(p)-1].Y))
}
