package contour_test

import (
	"fmt"
	"math"
	"slices"
	"testing"

	"flyover/api"
	"flyover/contour"
)

// wrongGrids are grids with errors.
var wrongGrids = []struct {
	g contour.Grid
	e api.Errno
}{
	{grid(0, 1), api.ErrRange}, {grid(17, 1, alike(17, 1)...), api.ErrRange}, {grid(-1, -1, 5), api.ErrRange}, {grid(1, 0), api.ErrRange}, {grid(1, 17, alike(17, 1)...), api.ErrRange}, {contour.Grid{}, api.ErrRange},
	{grid(math.MaxInt, math.MaxInt, 5), api.ErrRange}, {grid(math.MinInt, 2), api.ErrRange}, {grid(1, math.MinInt), api.ErrRange}, {grid(17, 1, 5), api.ErrRange}, {grid(1, 0, -1), api.ErrRange},
	{grid(2, 2, 1, 2, 3), api.ErrShape}, {grid(2, 2, 1, 2, 3, 4, 5), api.ErrShape}, {grid(1, 1), api.ErrShape}, {grid(1, 2, -1), api.ErrShape}, {grid(16, 16, alike(257, 1)...), api.ErrShape},
	{grid(1, 1, -1), api.ErrRange}, {grid(2, 1, 0, api.MaxEnergy+1), api.ErrRange}, {grid(2, 2, 1, 2, 3, math.MinInt), api.ErrRange}, {grid(1, 1, math.MaxInt), api.ErrRange},
}

// P6.1: the errors of a grid, in their order.
func TestCheckGrid(t *testing.T) {
	for i, g := range []contour.Grid{shown(), grid(1, 1, 0), grid(1, 1, api.MaxEnergy), even(16, 16, 3), even(16, 1, 0), even(1, 16, api.MaxEnergy)} {
		is(t, fmt.Sprint("CheckGrid ", i), contour.CheckGrid(g), api.OK)
	}
	for i, x := range wrongGrids {
		is(t, fmt.Sprint("CheckGrid of a wrong grid ", i), contour.CheckGrid(x.g), x.e)
	}
}

// errorsOf returns the errors of all functions of a first grid; their further arguments have errors, too.
func errorsOf(g contour.Grid) map[string]api.Errno {
	far, level := at(-1, 99), 121
	wrong := grid(1, 1)
	l := map[string]api.Errno{}
	_, l["At"] = contour.At(g, far)
	_, l["Levels"] = contour.Levels(g)
	_, l["Above"] = contour.Above(g, level)
	_, l["Hottest"] = contour.Hottest(g, 0)
	_, l["Contours"] = contour.Contours(g, level)
	l["CheckContours"] = contour.CheckContours(g, level, rings(nil))
	_, l["Exposed"] = contour.Exposed(g, nil, level)
	_, l["Classes"] = contour.Classes(g, nil, nil)
	_, l["Added"] = contour.Added([]contour.Grid{g, wrong})
	_, l["Shares"] = contour.Shares([]contour.Grid{g, wrong}, far)
	_, l["Loudest"] = contour.Loudest([]contour.Grid{g, wrong})
	_, l["Without"] = contour.Without([]contour.Grid{g, wrong}, 9, level)
	_, l["Difference"] = contour.Difference(g, wrong)
	_, l["Tile"] = contour.Tile(g, box(0, 0, 0, 0))
	_, l["Overlaid"] = contour.Overlaid(g, wrong, far)
	_, l["Joined"] = contour.Joined(g, wrong)
	_, l["Print"] = contour.Print(g)
	return l
}

// laterErrorsOf returns the errors of all functions of a second grid; their further arguments have errors, too.
func laterErrorsOf(g contour.Grid) map[string]api.Errno {
	pair := []contour.Grid{shown(), g}
	l := map[string]api.Errno{}
	_, l["Added"] = contour.Added(pair)
	_, l["Shares"] = contour.Shares(pair, at(-1, 99))
	_, l["Loudest"] = contour.Loudest(pair)
	_, l["Without"] = contour.Without(pair, 9, 121)
	_, l["Difference"] = contour.Difference(shown(), g)
	_, l["Overlaid"] = contour.Overlaid(shown(), g, at(-1, 99))
	_, l["Joined"] = contour.Joined(even(16, 2, 1), g)
	return l
}

// P6.1 to P6.4: the error of a grid comes before those of later arguments.
func TestErrorsOfGrids(t *testing.T) {
	for i, x := range wrongGrids {
		for name, e := range errorsOf(x.g) {
			is(t, fmt.Sprint("error of "+name+" of the wrong grid ", i), e, x.e)
		}
		for name, e := range laterErrorsOf(x.g) {
			is(t, fmt.Sprint("error of "+name+" of the wrong second grid ", i), e, x.e)
		}
	}
}

// P6.1: energies of cells.
func TestAt(t *testing.T) {
	for _, x := range []struct {
		cell api.Point
		n    int
		e    api.Errno
	}{
		{at(0, 0), 10, api.OK}, {at(1, 0), 100, api.OK}, {at(2, 0), 100, api.OK}, {at(0, 1), 9, api.OK}, {at(1, 1), 10, api.OK}, {at(2, 1), 1000, api.OK},
		{at(3, 0), 0, api.ErrUnknown}, {at(0, 2), 0, api.ErrUnknown}, {at(-1, 0), 0, api.ErrUnknown}, {at(-1, 1), 0, api.ErrUnknown}, {at(0, -1), 0, api.ErrUnknown}, {at(3, -1), 0, api.ErrUnknown},
		{at(math.MinInt, math.MaxInt), 0, api.ErrUnknown}, {at(math.MaxInt, 0), 0, api.ErrUnknown}, {at(0, math.MinInt), 0, api.ErrUnknown},
	} {
		n, e := contour.At(shown(), x.cell)
		is(t, fmt.Sprint("At ", x.cell), n, x.n)
		is(t, fmt.Sprint("error of At ", x.cell), e, x.e)
	}
}

// P6.1: levels of cells, and which are within a level.
func TestLevelsAndAbove(t *testing.T) {
	l, e := contour.Levels(shown())
	are(t, "Levels", l, []int{0, 10, 10, -1, 0, 20})
	is(t, "error of Levels", e, api.OK)
	l, _ = contour.Levels(grid(4, 1, 0, 9, 99, api.MaxEnergy))
	are(t, "Levels of the least and the greatest energies", l, []int{-1, -1, 9, 120})
	for i, x := range []struct {
		level int
		l     []bool
		e     api.Errno
	}{
		{0, []bool{true, true, true, false, true, true}, api.OK}, {1, []bool{false, true, true, false, false, true}, api.OK}, {10, []bool{false, true, true, false, false, true}, api.OK},
		{11, []bool{false, false, false, false, false, true}, api.OK}, {20, []bool{false, false, false, false, false, true}, api.OK}, {21, alike(6, false), api.OK}, {120, alike(6, false), api.OK},
		{121, nil, api.ErrRange}, {-1, nil, api.ErrRange}, {math.MinInt, nil, api.ErrRange}, {math.MaxInt, nil, api.ErrRange},
	} {
		l, e := contour.Above(shown(), x.level)
		are(t, fmt.Sprint("Above ", i), l, x.l)
		is(t, fmt.Sprint("error of Above ", i), e, x.e)
	}
}

// P6.1: a cell is within a level from the level's threshold on.
func TestAboveByThresholds(t *testing.T) {
	for level := range api.MaxLevel + 1 {
		n := thresholds[level%10] * int(math.Pow10(level/10))
		l, e := contour.Above(grid(2, 1, n-1, n), level)
		are(t, fmt.Sprint("Above ", level), l, []bool{false, true})
		is(t, "error of Above", e, api.OK)
	}
	r := seeded()
	for range 500 {
		g, level := anyGrid(r), from(r, 0, api.MaxLevel)
		levels, _ := contour.Levels(g)
		above, _ := contour.Above(g, level)
		is(t, "levels", len(levels), len(g.Energies))
		is(t, "cells", len(above), len(g.Energies))
		for i, n := range g.Energies {
			is(t, fmt.Sprint("the level of ", n), levels[i], levelOf(n))
			is(t, fmt.Sprint("within ", level, ": ", n), above[i], levelOf(n) >= level)
		}
	}
}

// P6.1: the hottest cells.
func TestHottest(t *testing.T) {
	all := []api.Point{at(2, 1), at(1, 0), at(2, 0), at(0, 0), at(1, 1), at(0, 1)}
	for i, x := range []struct {
		g contour.Grid
		n int
		l []api.Point
		e api.Errno
	}{
		{shown(), 1, all[:1], api.OK}, {shown(), 2, all[:2], api.OK}, {shown(), 5, all[:5], api.OK}, {shown(), 6, all, api.OK}, {grid(1, 1, 0), 1, []api.Point{at(0, 0)}, api.OK},
		{even(16, 16, 7), 256, cellsOf(even(16, 16, 7)), api.OK}, {grid(2, 2, 1, 5, 5, 5), 3, []api.Point{at(1, 0), at(0, 1), at(1, 1)}, api.OK},
		{shown(), 0, nil, api.ErrRange}, {shown(), 7, nil, api.ErrRange}, {shown(), -1, nil, api.ErrRange}, {even(16, 16, 7), 257, nil, api.ErrRange}, {shown(), math.MinInt, nil, api.ErrRange}, {shown(), math.MaxInt, nil, api.ErrRange},
	} {
		l, e := contour.Hottest(x.g, x.n)
		are(t, fmt.Sprint("Hottest ", i), l, x.l)
		is(t, fmt.Sprint("error of Hottest ", i), e, x.e)
	}
}

// P6.1: the hottest cells, found one after the other.
func TestHottestByDefinition(t *testing.T) {
	r := seeded()
	for range 300 {
		g := anyGrid(r)
		left := slices.Clone(g.Energies)
		n := from(r, 1, len(left))
		got, e := contour.Hottest(g, n)
		is(t, "error of Hottest", e, api.OK)
		var want []api.Point
		for range n {
			i := slices.Index(left, slices.Max(left))
			want = append(want, at(i%g.Width, i/g.Width))
			left[i] = -1
		}
		are(t, fmt.Sprint("Hottest of ", g), got, want)
	}
}
