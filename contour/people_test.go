package contour_test

import (
	"fmt"
	"math"
	"slices"
	"testing"

	"flyover/api"
	"flyover/contour"
)

// crowd returns 5 to 6 people for each cell of G, but for the last one 0 to 1.
func crowd() []api.Interval { return append(alike(5, of(5, 6)), of(0, 1)) }

// P6.3: the people within a level.
func TestExposed(t *testing.T) {
	const most = contour.MaxPeople
	for i, x := range []struct {
		g      contour.Grid
		people []api.Interval
		level  int
		sum    api.Interval
	}{
		{shown(), alike(6, of(5, 6)), 10, of(15, 18)}, {shown(), crowd(), 10, of(10, 13)}, {shown(), crowd(), 0, of(20, 25)}, {shown(), crowd(), 1, of(10, 13)}, {shown(), crowd(), 20, of(0, 1)}, {shown(), crowd(), 21, of(0, 0)}, {shown(), crowd(), 120, of(0, 0)},
		{even(16, 16, api.MaxEnergy), alike(256, of(most, most)), 120, of(256*most, 256*most)}, {even(16, 16, 10), alike(256, of(0, most)), 0, of(0, 256*most)}, {grid(1, 1, 10), []api.Interval{of(0, 0)}, 0, of(0, 0)},
	} {
		sum, e := contour.Exposed(x.g, x.people, x.level)
		is(t, fmt.Sprint("Exposed ", i), sum, x.sum)
		is(t, fmt.Sprint("error of Exposed ", i), e, api.OK)
	}
}

// P6.3: the classes of levels.
func TestClasses(t *testing.T) {
	for i, x := range []struct {
		people []api.Interval
		levels []int
		l      []api.Interval
	}{
		{alike(6, of(5, 6)), []int{0, 10, 20}, []api.Interval{of(10, 12), of(10, 12), of(5, 6)}}, {crowd(), []int{0, 10, 20}, []api.Interval{of(10, 12), of(10, 12), of(0, 1)}},
		{crowd(), []int{10}, []api.Interval{of(10, 13)}}, {crowd(), []int{0, 120}, []api.Interval{of(20, 25), of(0, 0)}}, {crowd(), []int{120}, []api.Interval{of(0, 0)}}, {crowd(), []int{0, 1}, []api.Interval{of(10, 12), of(10, 13)}},
		{crowd(), []int{1, 10, 11, 19, 20, 21, 119, 120}, []api.Interval{of(0, 0), of(10, 12), of(0, 0), of(0, 0), of(0, 1), of(0, 0), of(0, 0), of(0, 0)}},
	} {
		l, e := contour.Classes(shown(), x.people, x.levels)
		are(t, fmt.Sprint("Classes ", i), l, x.l)
		is(t, fmt.Sprint("error of Classes ", i), e, api.OK)
	}
}

// P6.3: the errors of people, and of a level or of levels after them.
func TestPeopleErrors(t *testing.T) {
	const most = contour.MaxPeople
	changed := func(i, low, high int) []api.Interval {
		l := crowd()
		l[i] = of(low, high)
		return l
	}
	for i, x := range []struct {
		people []api.Interval
		e      api.Errno
	}{
		{nil, api.ErrShape}, {crowd()[1:], api.ErrShape}, {append(crowd(), of(1, 0)), api.ErrShape}, {alike(257, of(-1, 0)), api.ErrShape},
		{changed(0, -1, 5), api.ErrRange}, {changed(5, most+1, most+1), api.ErrRange}, {changed(3, 0, most+1), api.ErrRange}, {changed(3, 5, -1), api.ErrRange}, {changed(2, math.MinInt, math.MaxInt), api.ErrRange},
		{changed(2, 2, 1), api.ErrOrder}, {changed(5, most, 0), api.ErrOrder}, {append(changed(1, 2, 1)[:5], of(-1, 0)), api.ErrOrder}, {append(changed(1, 0, -1)[:5], of(2, 1)), api.ErrRange},
	} {
		for _, level := range []int{10, 121} {
			sum, e := contour.Exposed(shown(), x.people, level)
			is(t, fmt.Sprint("error of Exposed ", i), e, x.e)
			is(t, "sum beside the error", sum, of(0, 0))
		}
		for _, levels := range [][]int{{10}, nil} {
			l, e := contour.Classes(shown(), x.people, levels)
			is(t, fmt.Sprint("error of Classes ", i), e, x.e)
			are(t, "classes beside the error", l, nil)
		}
	}
	for _, level := range []int{-1, 121, math.MinInt, math.MaxInt} {
		sum, e := contour.Exposed(shown(), crowd(), level)
		is(t, fmt.Sprint("error of Exposed of the level ", level), e, api.ErrRange)
		is(t, "sum beside the error", sum, of(0, 0))
	}
}

// P6.3: the errors of levels.
func TestLevelsErrors(t *testing.T) {
	for i, x := range []struct {
		levels []int
		e      api.Errno
	}{
		{nil, api.ErrEmpty}, {[]int{}, api.ErrEmpty}, {make([]int, 9), api.ErrMany}, {alike(9, 121), api.ErrMany}, {[]int{0, 1, 2, 3, 4, 5, 6, 7, 8}, api.ErrMany}, {[]int{0, 1, 2, 3, 4, 5, 6, 7}, api.OK},
		{[]int{121}, api.ErrRange}, {[]int{-1}, api.ErrRange}, {[]int{5, 121}, api.ErrRange}, {[]int{5, -1}, api.ErrRange}, {[]int{math.MinInt}, api.ErrRange}, {[]int{0, math.MaxInt}, api.ErrRange},
		{[]int{0, 0}, api.ErrOrder}, {[]int{5, 4}, api.ErrOrder}, {[]int{5, 4, 121}, api.ErrOrder}, {[]int{5, 121, 4}, api.ErrRange}, {[]int{0, 120, 120}, api.ErrOrder}, {[]int{0, 120}, api.OK},
	} {
		l, e := contour.Classes(shown(), crowd(), x.levels)
		is(t, fmt.Sprint("error of Classes ", i), e, x.e)
		if e != api.OK {
			are(t, "classes beside the error", l, nil)
		}
	}
}

// P6.3: people, cell by cell.
func TestPeopleByDefinition(t *testing.T) {
	r := seeded()
	for range 500 {
		g := anyGrid(r)
		people, levels := somePeople(r, len(g.Energies)), someLevels(r)
		want := make([]api.Interval, len(levels))
		for i, n := range g.Energies {
			// The class of a cell is that of the last level which it is within.
			class := -1
			for j, level := range levels {
				if levelOf(n) >= level {
					class = j
				}
			}
			if class >= 0 {
				want[class].Low += people[i].Low
				want[class].High += people[i].High
			}
		}
		l, e := contour.Classes(g, people, levels)
		are(t, fmt.Sprint("Classes of ", g, people, levels), l, want)
		is(t, "error of Classes", e, api.OK)
		for i, level := range slices.Backward(levels) {
			if i+1 < len(want) {
				want[i].Low += want[i+1].Low
				want[i].High += want[i+1].High
			}
			sum, e := contour.Exposed(g, people, level)
			is(t, fmt.Sprint("Exposed of ", g, people, level), sum, want[i])
			is(t, "error of Exposed", e, api.OK)
		}
	}
}
