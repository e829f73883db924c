package contour

import (
	"cmp"
	"iter"
	"slices"

	"flyover/api"
	"flyover/check"
)

// minCorners is how many corners a polygon has at least.
const minCorners = 3

// plus returns the sum of two points.
func plus(p, q api.Point) api.Point {
	return api.Point{X: p.X + q.X, Y: p.Y + q.Y}
}

// compareCorners compares two corners, by Y and then by X.
func compareCorners(p, q api.Point) int {
	return cmp.Or(cmp.Compare(p.Y, q.Y), cmp.Compare(p.X, q.X))
}

// ends are those of an edge, or of a polygon's side: the corner from which it leads, and the one to which it does.
type ends [2]api.Point

// moved returns ends that lie further by so much.
func (x ends) moved(by api.Point) ends {
	return ends{plus(x[0], by), plus(x[1], by)}
}

// direction returns how far it is from one end to the other one.
func (x ends) direction() api.Point {
	return api.Point{X: x[1].X - x[0].X, Y: x[1].Y - x[0].Y}
}

// straight reports whether what has these ends is level or upright.
func (x ends) straight() bool {
	d := x.direction()
	return d.X == 0 || d.Y == 0
}

// leftOf reports whether the line from a cell's receiver to the left crosses what is straight between these ends.
func (x ends) leftOf(cell api.Point) bool {
	low, high := min(x[0].Y, x[1].Y), max(x[0].Y, x[1].Y)
	// The receiver is in the middle of the cell, so that no corner has its X or its Y; what is level is never crossed.
	return x[0].X <= cell.X && low <= cell.Y && cell.Y < high
}

// sides visits those of a polygon.
func (p Polygon) sides() iter.Seq[ends] {
	return func(yield func(ends) bool) {
		for i := range len(p) {
			if !yield(ends{p[i], p[(i+1)%len(p)]}) {
				return
			}
		}
	}
}

// compare compares two polygons by their first corners, then by their second ones, and so on.
func (p Polygon) compare(q Polygon) int {
	return slices.CompareFunc(p, q, compareCorners)
}

func checkCorner(p api.Point) api.Errno {
	return check.First(check.Within(p.X, 0, MaxSide), check.Within(p.Y, 0, MaxSide))
}

func (p Polygon) check() api.Errno {
	return check.First(
		check.That(len(p) >= minCorners, api.ErrShort),
		check.AtMost(p, MaxCorners),
		check.Each(p, checkCorner),
	)
}

// checkSides returns ErrForm for a polygon with a side that is neither level nor upright, or OK.
func (p Polygon) checkSides() api.Errno {
	for x := range p.sides() {
		if !x.straight() {
			return api.ErrForm
		}
	}
	return api.OK
}

// checkPolygons returns the first error of polygons, or OK.
func checkPolygons(l []Polygon) api.Errno {
	if e := check.AtMost(l, MaxRings); e != api.OK {
		return e
	}
	return check.Each(l, func(p Polygon) api.Errno { return check.First(p.check(), p.checkSides()) })
}

// Area returns twice the area of a polygon.
func Area(p Polygon) (int, api.Errno) {
	if e := p.check(); e != api.OK {
		return 0, e
	}
	area := 0
	for x := range p.sides() {
		area += x[0].X*x[1].Y - x[1].X*x[0].Y
	}
	return area, api.OK
}

// inside reports whether polygons have a cell.
func inside(l []Polygon, cell api.Point) bool {
	odd := false
	for _, p := range l {
		for x := range p.sides() {
			odd = odd != x.leftOf(cell)
		}
	}
	return odd
}

// Inside reports whether polygons have a cell.
func Inside(l []Polygon, cell api.Point) (bool, api.Errno) {
	e := check.First(
		checkPolygons(l),
		check.Within(cell.X, 0, MaxSide-1),
		check.Within(cell.Y, 0, MaxSide-1),
	)
	if e != api.OK {
		return false, e
	}
	return inside(l, cell), api.OK
}
