package contour_test

import (
	"fmt"
	"math"
	"slices"
	"testing"

	"flyover/api"
	"flyover/contour"
)

// wrongRings are polygons with errors.
var wrongRings = []struct {
	p contour.Polygon
	e api.Errno
}{
	{nil, api.ErrShort}, {ring(0, 0), api.ErrShort}, {ring(0, 0, 1, 1), api.ErrShort}, {ring(0, 0, 99, 1), api.ErrShort},
	{make(contour.Polygon, 1025), api.ErrMany}, {alike(1025, at(-1, 17)), api.ErrMany},
	{ring(0, 0, 17, 1, 2, 2), api.ErrRange}, {ring(0, 0, 1, 17, 2, 2), api.ErrRange}, {ring(-1, 0, 1, 0, 2, 2), api.ErrRange}, {ring(0, 0, 1, 0, 2, -1), api.ErrRange},
	{ring(0, 0, math.MinInt, 0, 0, 1), api.ErrRange}, {ring(0, 0, 0, 1, 0, math.MaxInt), api.ErrRange}, {slices.Concat(make(contour.Polygon, 1023), ring(0, 17)), api.ErrRange},
}

// P6.2: areas of polygons.
func TestArea(t *testing.T) {
	for i, x := range []struct {
		p contour.Polygon
		n int
	}{
		{ring(1, 0, 3, 0, 3, 2, 2, 2, 2, 1, 1, 1), 6}, {ring(0, 0, 3, 0, 3, 2, 1, 2, 1, 1, 0, 1), 10}, {square(0, 0, 3, 3), 18}, {ring(1, 1, 1, 2, 2, 2, 2, 1), -2},
		{square(0, 0, 16, 16), 512}, {ring(0, 16, 16, 16, 16, 0, 0, 0), -512}, {square(15, 15, 16, 16), 2},
		// Any corners: a triangle, a line, a point, sides that cross, a way that leads around twice.
		{ring(0, 0, 3, 0, 0, 4), 12}, {ring(0, 0, 0, 4, 3, 0), -12}, {ring(5, 1, 9, 2, 7, 8), 26}, {ring(0, 0, 1, 1, 2, 2), 0}, {ring(3, 3, 3, 3, 3, 3), 0}, {ring(0, 0, 2, 2, 2, 0, 0, 2), 0},
		{slices.Concat(square(1, 1, 3, 3), square(1, 1, 3, 3)), 16}, {make(contour.Polygon, 1024), 0}, {slices.Repeat(square(0, 0, 16, 16), 256), 256 * 512},
	} {
		n, e := contour.Area(x.p)
		is(t, fmt.Sprint("Area ", i), n, x.n)
		is(t, fmt.Sprint("error of Area ", i), e, api.OK)
	}
	for i, x := range wrongRings {
		n, e := contour.Area(x.p)
		is(t, fmt.Sprint("area beside the error ", i), n, 0)
		is(t, fmt.Sprint("error of Area of a wrong polygon ", i), e, x.e)
	}
}

// turnsAround returns how often polygons lead around a cell to the left: what crosses the line to the right upwards, less what crosses it downwards.
func turnsAround(l []contour.Polygon, cell api.Point) int {
	n := 0
	for _, p := range l {
		for i, a := range p {
			b := p[(i+1)%len(p)]
			if a.X <= cell.X {
				continue
			}
			if a.Y <= cell.Y && cell.Y < b.Y {
				n++
			}
			if b.Y <= cell.Y && cell.Y < a.Y {
				n--
			}
		}
	}
	return n
}

// P6.2: twice the area is how often a polygon leads around each cell, and polygons have a cell that they lead around oddly often.
func TestAreaAndInsideByDefinition(t *testing.T) {
	r := seeded()
	cells := cellsOf(even(16, 16, 0))
	for range 1000 {
		var l []contour.Polygon
		for range from(r, 0, 4) {
			l = append(l, someRing(r))
		}
		for _, p := range l {
			want := 0
			for _, c := range cells {
				want += 2 * turnsAround(rings(p), c)
			}
			n, e := contour.Area(p)
			is(t, fmt.Sprint("Area of ", p), n, want)
			is(t, "error of Area", e, api.OK)
			turned, _ := contour.Area(slices.Concat(p[1:], p[:1]))
			is(t, fmt.Sprint("Area from another corner of ", p), turned, want)
			back := slices.Clone(p)
			slices.Reverse(back)
			opposite, _ := contour.Area(back)
			is(t, fmt.Sprint("Area the other way around of ", p), opposite, -want)
		}
		for _, c := range cells {
			has, e := contour.Inside(l, c)
			is(t, fmt.Sprint("Inside of ", c, l), has, turnsAround(l, c)%2 != 0)
			is(t, "error of Inside", e, api.OK)
		}
	}
}

// P6.2: polygons that have cells.
func TestInside(t *testing.T) {
	hole := rings(square(0, 0, 3, 3), ring(1, 1, 1, 2, 2, 2, 2, 1))
	for i, x := range []struct {
		l    []contour.Polygon
		cell api.Point
		has  bool
	}{
		{hole, at(0, 0), true}, {hole, at(1, 1), false}, {hole, at(2, 1), true}, {hole, at(1, 0), true}, {hole, at(1, 2), true}, {hole, at(3, 1), false}, {hole, at(0, 3), false}, {hole, at(15, 15), false},
		{nil, at(0, 0), false}, {nil, at(15, 15), false}, {rings(square(0, 0, 16, 16)), at(15, 15), true}, {rings(square(0, 0, 16, 16)), at(0, 0), true},
		{rings(square(2, 2, 4, 4)), at(1, 2), false}, {rings(square(2, 2, 4, 4)), at(2, 2), true}, {rings(square(2, 2, 4, 4)), at(3, 3), true}, {rings(square(2, 2, 4, 4)), at(4, 3), false}, {rings(square(2, 2, 4, 4)), at(2, 1), false}, {rings(square(2, 2, 4, 4)), at(3, 4), false},
		// Sides that lead nowhere, back, and over each other.
		{rings(ring(0, 0, 0, 0, 2, 0, 2, 2, 0, 2)), at(1, 1), true}, {rings(ring(1, 1, 1, 1, 1, 1)), at(1, 1), false}, {rings(ring(0, 0, 0, 5, 0, 2)), at(3, 3), false},
		{rings(square(0, 0, 2, 2), square(0, 0, 2, 2)), at(1, 1), false}, {alike(255, square(0, 0, 1, 1)), at(0, 0), true}, {alike(256, square(0, 0, 1, 1)), at(0, 0), false},
		{rings(make(contour.Polygon, 1024)), at(0, 0), false},
	} {
		has, e := contour.Inside(x.l, x.cell)
		is(t, fmt.Sprint("Inside ", i), has, x.has)
		is(t, fmt.Sprint("error of Inside ", i), e, api.OK)
	}
}

// P6.2: the errors of polygons, and of a cell.
func TestInsideErrors(t *testing.T) {
	right, slanted := square(0, 0, 1, 1), ring(0, 0, 2, 1, 0, 2)
	for i, x := range wrongRings {
		for _, l := range [][]contour.Polygon{rings(x.p), rings(right, x.p), rings(right, x.p, slanted), slices.Concat(alike(255, right), rings(x.p))} {
			has, e := contour.Inside(l, at(-1, 0))
			is(t, fmt.Sprint("error of Inside of a wrong polygon ", i), e, x.e)
			is(t, "Inside beside the error", has, false)
		}
		_, e := contour.Inside(rings(slanted, x.p), at(0, 0))
		is(t, fmt.Sprint("error of Inside of a slanted polygon before ", i), e, api.ErrForm)
	}
	for i, x := range []struct {
		l    []contour.Polygon
		cell api.Point
		e    api.Errno
	}{
		{rings(slanted), at(0, 0), api.ErrForm}, {rings(slanted), at(-1, 16), api.ErrForm}, {rings(right, slanted), at(0, 0), api.ErrForm}, {rings(ring(0, 0, 1, 1, 1, 0)), at(0, 0), api.ErrForm},
		// The last side leads to the first corner.
		{rings(ring(0, 0, 1, 0, 1, 1)), at(0, 0), api.ErrForm}, {rings(ring(0, 0, 1, 0, 1, 1, 17, 17)), at(0, 0), api.ErrRange},
		{make([]contour.Polygon, 257), at(-1, 0), api.ErrMany}, {alike(257, slanted), at(0, 0), api.ErrMany}, {make([]contour.Polygon, 256), at(0, 0), api.ErrShort},
		{rings(right), at(-1, 0), api.ErrRange}, {rings(right), at(16, 0), api.ErrRange}, {rings(right), at(0, -1), api.ErrRange}, {rings(right), at(0, 16), api.ErrRange}, {nil, at(16, 16), api.ErrRange},
		{nil, at(math.MinInt, 0), api.ErrRange}, {nil, at(0, math.MaxInt), api.ErrRange},
	} {
		has, e := contour.Inside(x.l, x.cell)
		is(t, fmt.Sprint("error of Inside ", i), e, x.e)
		is(t, "Inside beside the error", has, false)
	}
}
