package contour_test

import (
	"fmt"
	"math"
	"testing"

	"flyover/api"
	"flyover/contour"
)

// pair returns two grids.
func pair(a, b contour.Grid) []contour.Grid { return []contour.Grid{a, b} }

// wrongLists are lists of grids with errors.
var wrongLists = []struct {
	l []contour.Grid
	e api.Errno
}{
	{nil, api.ErrEmpty}, {[]contour.Grid{}, api.ErrEmpty}, {make([]contour.Grid, 17), api.ErrMany}, {alike(17, shown()), api.ErrMany}, {make([]contour.Grid, 16), api.ErrRange},
	{pair(shown(), grid(1, 1, 5)), api.ErrShape}, {pair(shown(), even(2, 3, 5)), api.ErrShape}, {pair(shown(), even(3, 3, 5)), api.ErrShape}, {pair(shown(), even(2, 2, 5)), api.ErrShape}, {pair(even(6, 1, 1), shown()), api.ErrShape},
	{[]contour.Grid{shown(), grid(1, 1, 5), {}}, api.ErrShape}, {[]contour.Grid{shown(), {}, grid(1, 1, 5)}, api.ErrRange}, {[]contour.Grid{shown(), shown(), badGrid()}, api.ErrShape}, {pair(shown(), grid(1, 1, -1)), api.ErrRange},
}

// P6.1: the errors of lists of grids come before those of later arguments.
func TestErrorsOfLists(t *testing.T) {
	for i, x := range wrongLists {
		what := fmt.Sprint("of the wrong list ", i)
		g, e := contour.Added(x.l)
		is(t, "error of Added "+what, e, x.e)
		isGrid(t, "the sum "+what, g, contour.Grid{})
		shares, e := contour.Shares(x.l, at(-1, 99))
		is(t, "error of Shares "+what, e, x.e)
		are(t, "shares "+what, shares, nil)
		loudest, e := contour.Loudest(x.l)
		is(t, "error of Loudest "+what, e, x.e)
		are(t, "loudest "+what, loudest, nil)
		cells, e := contour.Without(x.l, 99, 121)
		is(t, "error of Without "+what, e, x.e)
		are(t, "cells "+what, cells, nil)
	}
}

// P6.1: sums of grids.
func TestAdded(t *testing.T) {
	const most = api.MaxEnergy
	for i, x := range []struct {
		l   []contour.Grid
		sum contour.Grid
		e   api.Errno
	}{
		{pair(shown(), shown()), grid(3, 2, 20, 200, 200, 18, 20, 2000), api.OK}, {[]contour.Grid{shown()}, shown(), api.OK}, {alike(16, grid(2, 1, 3, 0)), grid(2, 1, 48, 0), api.OK},
		{pair(grid(1, 2, most, 0), grid(1, 2, 0, most)), grid(1, 2, most, most), api.OK}, {pair(grid(1, 1, most-1), grid(1, 1, 1)), grid(1, 1, most), api.OK},
		{pair(grid(1, 1, most), grid(1, 1, 1)), contour.Grid{}, api.ErrLarge}, {pair(grid(2, 1, 0, most), grid(2, 1, 0, 1)), contour.Grid{}, api.ErrLarge}, {alike(16, even(16, 16, most)), contour.Grid{}, api.ErrLarge},
	} {
		g, e := contour.Added(x.l)
		isGrid(t, fmt.Sprint("Added ", i), g, x.sum)
		is(t, fmt.Sprint("error of Added ", i), e, x.e)
	}
	sum, _ := contour.Added(pair(shown(), shown()))
	l, _ := contour.Levels(sum)
	are(t, "levels of the sum", l, []int{3, 13, 13, 2, 3, 23})
}

// P6.1: shares of grids in a cell.
func TestShares(t *testing.T) {
	const most = api.MaxEnergy
	two := pair(grid(2, 1, 6, 0), grid(2, 1, 4, 0))
	large := pair(grid(2, 1, most, 5), grid(2, 1, 1, 0))
	for i, x := range []struct {
		l      []contour.Grid
		cell   api.Point
		shares []api.Ratio
		e      api.Errno
	}{
		{pair(shown(), shown()), at(2, 1), []api.Ratio{ratio(1, 2), ratio(1, 2)}, api.OK}, {two, at(0, 0), []api.Ratio{ratio(3, 5), ratio(2, 5)}, api.OK}, {[]contour.Grid{shown()}, at(0, 1), []api.Ratio{ratio(1, 1)}, api.OK},
		{large, at(1, 0), []api.Ratio{ratio(1, 1), ratio(0, 1)}, api.OK}, {pair(shown(), grid(3, 2, 5, 0, 60, 0, 0, 9000)), at(2, 0), []api.Ratio{ratio(5, 8), ratio(3, 8)}, api.OK}, {alike(16, even(1, 1, 7)), at(0, 0), alike(16, ratio(1, 16)), api.OK},
		// In lowest terms, also where these are large.
		{pair(grid(1, 1, most-1), grid(1, 1, 1)), at(0, 0), []api.Ratio{ratio(most-1, most), ratio(1, most)}, api.OK},
		{two, at(1, 0), nil, api.ErrZero}, {large, at(0, 0), nil, api.ErrLarge}, {[]contour.Grid{grid(1, 1, 0)}, at(0, 0), nil, api.ErrZero},
		{two, at(2, 0), nil, api.ErrUnknown}, {two, at(0, 1), nil, api.ErrUnknown}, {large, at(-1, 0), nil, api.ErrUnknown}, {two, at(0, -1), nil, api.ErrUnknown}, {two, at(math.MaxInt, math.MinInt), nil, api.ErrUnknown},
	} {
		l, e := contour.Shares(x.l, x.cell)
		are(t, fmt.Sprint("Shares ", i), l, x.shares)
		is(t, fmt.Sprint("error of Shares ", i), e, x.e)
	}
}

// P6.1: the loudest grid in each cell.
func TestLoudest(t *testing.T) {
	for i, x := range []struct {
		l    []contour.Grid
		want []int
	}{
		{pair(grid(2, 1, 6, 0), grid(2, 1, 4, 0)), []int{0, -1}}, {pair(shown(), shown()), alike(6, 0)}, {pair(grid(2, 2, 1, 2, 3, 0), grid(2, 2, 2, 2, 2, 1)), []int{1, 0, 0, 1}},
		{[]contour.Grid{shown()}, alike(6, 0)}, {[]contour.Grid{even(2, 1, 0), even(2, 1, 0)}, []int{-1, -1}}, {[]contour.Grid{grid(1, 1, 0), grid(1, 1, 7), grid(1, 1, 7)}, []int{1}},
		// No sum is too large here.
		{alike(16, even(2, 1, api.MaxEnergy)), []int{0, 0}}, {append(alike(15, even(1, 1, 8)), even(1, 1, 9)), []int{15}},
	} {
		l, e := contour.Loudest(x.l)
		are(t, fmt.Sprint("Loudest ", i), l, x.want)
		is(t, fmt.Sprint("error of Loudest ", i), e, api.OK)
	}
}

// P6.1: cells that leave a level without a grid.
func TestWithout(t *testing.T) {
	const most = api.MaxEnergy
	two := pair(grid(3, 1, 60, 100, 0), grid(3, 1, 60, 0, 100))
	large := pair(grid(2, 1, 0, most), grid(2, 1, 0, 1))
	for i, x := range []struct {
		l            []contour.Grid
		index, level int
		cells        []api.Point
		e            api.Errno
	}{
		{pair(grid(1, 1, 60), grid(1, 1, 60)), 0, 10, []api.Point{at(0, 0)}, api.OK}, {two, 0, 10, []api.Point{at(0, 0), at(1, 0)}, api.OK}, {two, 1, 10, []api.Point{at(0, 0), at(2, 0)}, api.OK},
		{two, 0, 7, []api.Point{at(1, 0)}, api.OK}, {two, 0, 8, []api.Point{at(0, 0), at(1, 0)}, api.OK}, {two, 1, 11, nil, api.OK}, {two, 0, 120, nil, api.OK}, {two, 0, 0, []api.Point{at(1, 0)}, api.OK},
		// Without the only one there is nothing.
		{[]contour.Grid{shown()}, 0, 0, []api.Point{at(0, 0), at(1, 0), at(2, 0), at(1, 1), at(2, 1)}, api.OK}, {[]contour.Grid{shown()}, 0, 20, []api.Point{at(2, 1)}, api.OK},
		{pair(grid(1, 1, most-1), grid(1, 1, 1)), 1, 120, []api.Point{at(0, 0)}, api.OK}, {pair(grid(1, 1, most-1), grid(1, 1, 1)), 1, 119, nil, api.OK}, {alike(16, even(2, 2, 1)), 15, 2, cellsOf(even(2, 2, 0)), api.OK},
		{large, 0, 120, nil, api.ErrLarge}, {large, 1, 0, nil, api.ErrLarge},
		{two, 2, 10, nil, api.ErrUnknown}, {two, -1, 10, nil, api.ErrUnknown}, {large, 2, 121, nil, api.ErrUnknown}, {two, math.MinInt, 10, nil, api.ErrUnknown}, {two, math.MaxInt, 10, nil, api.ErrUnknown},
		{two, 0, -1, nil, api.ErrRange}, {two, 0, 121, nil, api.ErrRange}, {large, 0, 121, nil, api.ErrRange}, {two, 0, math.MinInt, nil, api.ErrRange},
	} {
		l, e := contour.Without(x.l, x.index, x.level)
		are(t, fmt.Sprint("Without ", i), l, x.cells)
		is(t, fmt.Sprint("error of Without ", i), e, x.e)
	}
}

// P6.1: sums, shares, the loudest grids and what is left without one, cell by cell.
func TestSumsByDefinition(t *testing.T) {
	r := seeded()
	left := 0
	for range 500 {
		l := someGrids(r, contour.MaxMaps)
		index, level := r.Intn(len(l)), from(r, 0, 40)
		sum, e := contour.Added(l)
		is(t, "error of Added", e, api.OK)
		loudest, e := contour.Loudest(l)
		is(t, "error of Loudest", e, api.OK)
		var want []api.Point
		for i, cell := range cellsOf(l[0]) {
			all, rest, most, first := 0, 0, 0, -1
			for j, g := range l {
				n := g.Energies[i]
				all += n
				if j != index {
					rest += n
				}
				if n > most {
					most, first = n, j
				}
			}
			is(t, "the sum", sum.Energies[i], all)
			is(t, "the loudest", loudest[i], first)
			if levelOf(all) >= level && levelOf(rest) < level {
				want = append(want, cell)
			}
			shares, e := contour.Shares(l, cell)
			if all == 0 {
				is(t, "error of Shares of nothing", e, api.ErrZero)
				continue
			}
			is(t, "error of Shares", e, api.OK)
			for j, g := range l {
				is(t, fmt.Sprint("the share ", shares[j], " of ", all), shares[j].Num*(all/shares[j].Den), g.Energies[i])
			}
		}
		cells, e := contour.Without(l, index, level)
		are(t, fmt.Sprint("Without of ", l, index, level), cells, want)
		is(t, "error of Without", e, api.OK)
		left += len(cells)
	}
	is(t, fmt.Sprint("many cells leave: ", left), left > 300, true)
}

// P6.1: differences of levels.
func TestDifference(t *testing.T) {
	for i, x := range []struct {
		a, b contour.Grid
		l    []int
		e    api.Errno
	}{
		{shown(), grid(3, 2, 100, 100, 10, 9, 9, 1000), []int{10, 0, -10, 0, -1, 0}, api.OK}, {shown(), shown(), alike(6, 0), api.OK}, {grid(2, 1, 0, api.MaxEnergy), grid(2, 1, api.MaxEnergy, 0), []int{121, -121}, api.OK},
		{grid(1, 1, 13), grid(1, 1, 15), []int{0}, api.OK}, {shown(), grid(2, 3, 1, 1, 1, 1, 1, 1), nil, api.ErrShape}, {shown(), even(3, 1, 1), nil, api.ErrShape}, {shown(), even(2, 2, 1), nil, api.ErrShape}, {even(2, 2, 1), even(3, 2, 1), nil, api.ErrShape},
		{grid(2, 2, 1), grid(0, 0), nil, api.ErrShape}, {grid(0, 0), grid(2, 2, 1), nil, api.ErrRange}, {shown(), grid(1, 1, -1), nil, api.ErrRange},
	} {
		l, e := contour.Difference(x.a, x.b)
		are(t, fmt.Sprint("Difference ", i), l, x.l)
		is(t, fmt.Sprint("error of Difference ", i), e, x.e)
	}
	r := seeded()
	for range 300 {
		a := anyGrid(r)
		b := someGrid(r, a.Width, a.Height)
		there, e := contour.Difference(a, b)
		is(t, "error of Difference", e, api.OK)
		back, _ := contour.Difference(b, a)
		for i := range a.Energies {
			is(t, "the difference", there[i], levelOf(b.Energies[i])-levelOf(a.Energies[i]))
			is(t, "the difference back", back[i], -there[i])
		}
	}
}
