package contour_test

import (
	"cmp"
	"fmt"
	"math"
	"slices"
	"testing"

	"flyover/api"
	"flyover/contour"
)

// P6.2: contours of grids.
func TestContours(t *testing.T) {
	const o = 0
	for i, x := range []struct {
		g     contour.Grid
		level int
		l     []contour.Polygon
	}{
		{shown(), 10, rings(ring(1, 0, 3, 0, 3, 2, 2, 2, 2, 1, 1, 1))}, {shown(), 0, rings(ring(0, 0, 3, 0, 3, 2, 1, 2, 1, 1, 0, 1))},
		{shown(), 20, rings(square(2, 1, 3, 2))}, {shown(), 21, nil}, {shown(), 120, nil}, {grid(1, 1, 9), 0, nil},
		{grid(1, 1, 10), 0, rings(square(0, 0, 1, 1))}, {grid(1, 1, api.MaxEnergy), 120, rings(square(0, 0, 1, 1))}, {even(16, 16, 10), 0, rings(square(0, 0, 16, 16))},
		// Cells with just a corner in common, in both directions.
		{grid(2, 2, 10, 0, 0, 10), 0, rings(square(0, 0, 1, 1), square(1, 1, 2, 2))}, {grid(2, 2, 0, 10, 10, 0), 0, rings(square(1, 0, 2, 1), square(0, 1, 1, 2))},
		// A hole; two with a corner in common, which are two polygons; one that touches the outside, which is part of it.
		{grid(3, 3, 10, 10, 10, 10, o, 10, 10, 10, 10), 0, rings(square(0, 0, 3, 3), ring(1, 1, 1, 2, 2, 2, 2, 1))},
		{grid(4, 4, 10, 10, 10, 10, 10, o, 10, 10, 10, 10, o, 10, 10, 10, 10, 10), 0, rings(square(0, 0, 4, 4), ring(1, 1, 1, 2, 2, 2, 2, 3, 3, 3, 3, 2, 2, 2, 2, 1))},
		{grid(3, 3, 10, 10, 10, 10, o, 10, 10, 10, o), 0, rings(ring(0, 0, 3, 0, 3, 2, 2, 2, 2, 1, 1, 1, 1, 2, 2, 2, 2, 3, 0, 3))},
		{grid(3, 2, 10, 10, 10, 10, o, 10), 0, rings(ring(0, 0, 3, 0, 3, 2, 2, 2, 2, 1, 1, 1, 1, 2, 0, 2))},
		// An island in a hole.
		{grid(5, 5, slices.Concat(alike(5, 10), []int{10, o, o, o, 10, 10, o, 10, o, 10, 10, o, o, o, 10}, alike(5, 10))...), 0, rings(square(0, 0, 5, 5), ring(1, 1, 1, 4, 4, 4, 4, 1), square(2, 2, 3, 3))},
		// By Y, then by X.
		{grid(5, 2, 10, o, 10, o, 10, o, 10, o, 10, o), 0, rings(square(0, 0, 1, 1), square(2, 0, 3, 1), square(4, 0, 5, 1), square(1, 1, 2, 2), square(3, 1, 4, 2))},
		{grid(3, 2, o, o, 10, 10, o, 10), 0, rings(square(2, 0, 3, 2), square(0, 1, 1, 2))},
	} {
		l, e := contour.Contours(x.g, x.level)
		areRings(t, fmt.Sprint("Contours ", i), l, x.l)
		is(t, fmt.Sprint("error of Contours ", i), e, api.OK)
		is(t, fmt.Sprint("CheckContours ", i), contour.CheckContours(x.g, x.level, x.l), api.OK)
	}
	for _, level := range []int{-1, 121, math.MinInt, math.MaxInt} {
		l, e := contour.Contours(shown(), level)
		areRings(t, "contours beside the error", l, nil)
		is(t, "error of Contours", e, api.ErrRange)
	}
}

// compareCorners compares corners by Y, then by X.
func compareCorners(p, q api.Point) int {
	return (p.Y-q.Y)*1000 + p.X - q.X
}

// unit is an edge, from one corner to the next one.
type unit struct{ from, to api.Point }

func (x unit) direction() api.Point { return at(x.to.X-x.from.X, x.to.Y-x.from.Y) }

// cell returns the one on the left of an edge.
func (x unit) cell() api.Point {
	switch x.direction() {
	case at(1, 0):
		return x.from
	case at(0, 1):
		return at(x.from.X-1, x.from.Y)
	case at(-1, 0):
		return at(x.to.X, x.to.Y-1)
	}
	return x.to
}

// withinOf returns whether cells are within a level; those outside of a grid are not.
func withinOf(g contour.Grid, level int) func(api.Point) bool {
	return func(cell api.Point) bool {
		n, e := contour.At(g, cell)
		return e == api.OK && levelOf(n) >= level
	}
}

// fourWays has the directions along sides, and eightWays those across corners, too.
var (
	fourWays  = []api.Point{at(1, 0), at(0, 1), at(-1, 0), at(0, -1)}
	eightWays = append(slices.Clone(fourWays), at(1, 1), at(1, -1), at(-1, 1), at(-1, -1))
)

// expectedEdges returns those of a level: all ways from a corner to the next one with a cell within the level on the left, and none on the right.
func expectedEdges(g contour.Grid, level int) map[unit]bool {
	within := withinOf(g, level)
	edges := map[unit]bool{}
	for x := range g.Width + 1 {
		for y := range g.Height + 1 {
			for _, d := range fourWays {
				there := unit{at(x, y), at(x+d.X, y+d.Y)}
				back := unit{there.to, there.from}
				if within(there.cell()) && !within(back.cell()) {
					edges[there] = true
				}
			}
		}
	}
	return edges
}

// unitsOf returns the edges of a polygon, one after the other, and whether all of its sides are level or upright.
func unitsOf(p contour.Polygon) ([]unit, bool) {
	var l []unit
	for i, corner := range p {
		end := p[(i+1)%len(p)]
		d := at(cmp.Compare(end.X, corner.X), cmp.Compare(end.Y, corner.Y))
		if d.X*d.Y != 0 || d == at(0, 0) {
			return nil, false
		}
		for corner != end {
			next := at(corner.X+d.X, corner.Y+d.Y)
			l = append(l, unit{corner, next})
			corner = next
		}
	}
	return l, true
}

// faultOf returns what is wrong with a polygon by the edges that no polygon before it has, which it takes away; begin has how many begin at each corner.
func faultOf(p contour.Polygon, edges map[unit]bool, begin map[api.Point]int) string {
	units, ok := unitsOf(p)
	if !ok || len(units) == 0 {
		return "a side that is neither level nor upright"
	}
	turns := 0
	before := units[len(units)-1]
	for _, x := range units {
		if !edges[x] {
			return fmt.Sprint("an edge that is none, or is there twice: ", x)
		}
		delete(edges, x)
		if begin[x.from] == 2 && before.cell() != x.cell() {
			return fmt.Sprint("an edge after that of another cell: ", x)
		}
		if before.direction() != x.direction() {
			turns++
		}
		before = x
	}
	if turns != len(p) {
		return "a corner at which the way leads straight on"
	}
	if slices.MinFunc(p, compareCorners) != p[0] {
		return "another corner is less than the first one"
	}
	return ""
}

// faultOfAll returns what is wrong with the contours of a level.
func faultOfAll(g contour.Grid, level int, l []contour.Polygon) string {
	edges := expectedEdges(g, level)
	begin := map[api.Point]int{}
	for x := range edges {
		begin[x.from]++
	}
	for _, p := range l {
		if fault := faultOf(p, edges, begin); fault != "" {
			return fault
		}
	}
	if len(edges) > 0 {
		return fmt.Sprint("edges that are missing: ", edges)
	}
	if !slices.IsSortedFunc(l, func(p, q contour.Polygon) int { return compareCorners(p[0], q[0]) }) {
		return "the wrong order"
	}
	return ""
}

// groups returns how many groups of cells there are, from -1, -1 on, up to width, height, that are joined by ways.
func groups(in func(api.Point) bool, width, height int, ways []api.Point) int {
	n, seen := 0, map[api.Point]bool{}
	var fill func(api.Point)
	fill = func(p api.Point) {
		if seen[p] || !in(p) || p.X < -1 || p.Y < -1 || p.X > width || p.Y > height {
			return
		}
		seen[p] = true
		for _, d := range ways {
			fill(at(p.X+d.X, p.Y+d.Y))
		}
	}
	for x := -1; x <= width; x++ {
		for y := -1; y <= height; y++ {
			before := len(seen)
			fill(at(x, y))
			if len(seen) > before {
				n++
			}
		}
	}
	return n
}

// checkContours tests the contours of a level by the definition, and how many lead around the outside and around holes.
func checkContours(t *testing.T, g contour.Grid, level int) {
	t.Helper()
	l, e := contour.Contours(g, level)
	is(t, "error of Contours", e, api.OK)
	is(t, fmt.Sprint("what is wrong with the contours of ", g, level), faultOfAll(g, level, l), "")
	outside, holes := 0, 0
	for _, p := range l {
		area, e := contour.Area(p)
		is(t, "error of Area", e, api.OK)
		if area > 0 {
			outside++
		} else {
			holes++
		}
	}
	within := withinOf(g, level)
	without := func(p api.Point) bool { return !within(p) }
	is(t, "ways around the outside", outside, groups(within, g.Width, g.Height, fourWays))
	is(t, "ways around holes", holes, groups(without, g.Width, g.Height, eightWays)-1)
}

// P6.2: contours by the definition, of all patterns of small grids and of some large ones.
func TestContoursByDefinition(t *testing.T) {
	for bits := range 1 << 12 {
		checkContours(t, pattern(4, 3, bits), 0)
		checkContours(t, pattern(3, 4, bits), 0)
	}
	for bits := range 1 << 7 {
		checkContours(t, pattern(7, 1, bits), 0)
		checkContours(t, pattern(1, 7, bits), 0)
	}
	r := seeded()
	for range 300 {
		checkContours(t, blots(r, from(r, 1, 16), from(r, 1, 16), from(r, 1, 99)), 0)
		checkContours(t, anyGrid(r), from(r, 0, 50))
	}
	// As many polygons as there can be.
	chess := even(16, 16, 0)
	for i := range chess.Energies {
		chess.Energies[i] = 10 * ((i + i/16) % 2)
	}
	l, _ := contour.Contours(chess, 0)
	is(t, "polygons", len(l), 128)
	checkContours(t, chess, 0)
}

// P6.2: polygons that have just the cells within a level, and others.
func TestCheckContours(t *testing.T) {
	right := ring(1, 0, 3, 0, 3, 2, 2, 2, 2, 1, 1, 1)
	around := slices.Clone(right)
	slices.Reverse(around)
	slanted := ring(0, 0, 2, 1, 0, 2)
	for i, x := range []struct {
		g     contour.Grid
		level int
		l     []contour.Polygon
		e     api.Errno
	}{
		{shown(), 10, rings(right), api.OK}, {shown(), 1, rings(right), api.OK}, {shown(), 21, nil, api.OK}, {shown(), 120, rings(), api.OK},
		// Any polygons with the right cells: the other way around, from another corner, in other parts, with a part twice more, and beyond the grid.
		{shown(), 10, rings(around), api.OK}, {shown(), 10, rings(slices.Concat(right[2:], right[:2])), api.OK}, {shown(), 10, rings(square(1, 0, 3, 1), square(2, 1, 3, 2)), api.OK},
		{shown(), 10, rings(right, square(0, 0, 2, 2), square(0, 0, 2, 2)), api.OK}, {shown(), 10, rings(right, square(3, 0, 16, 16)), api.OK}, {shown(), 10, rings(right, square(0, 2, 16, 16)), api.OK},
		{grid(1, 1, 10), 0, rings(square(0, 0, 5, 5)), api.OK}, {shown(), 10, rings(square(0, 0, 3, 2), square(0, 0, 1, 2), square(1, 1, 2, 2)), api.OK},
		{shown(), 10, alike(255, right), api.OK}, {shown(), 10, alike(256, right), api.ErrProof},
		{shown(), 10, nil, api.ErrProof}, {shown(), 10, rings(square(2, 1, 3, 2)), api.ErrProof}, {shown(), 10, rings(square(0, 0, 3, 2)), api.ErrProof}, {shown(), 0, rings(right), api.ErrProof}, {shown(), 11, rings(right), api.ErrProof},
		{shown(), 10, rings(right, right), api.ErrProof}, {shown(), 21, rings(square(0, 0, 1, 1)), api.ErrProof}, {grid(1, 1, 9), 0, rings(square(0, 0, 5, 5)), api.ErrProof}, {grid(1, 1, 10), 0, rings(square(1, 0, 5, 5)), api.ErrProof},
		{badGrid(), 121, rings(slanted), api.ErrShape}, {shown(), 121, rings(slanted), api.ErrRange}, {shown(), -1, rings(nil), api.ErrRange}, {shown(), 10, rings(slanted), api.ErrForm}, {shown(), 10, rings(right, nil), api.ErrShort},
		{shown(), 10, alike(257, right), api.ErrMany}, {shown(), 10, rings(square(0, 0, 17, 1)), api.ErrRange}, {shown(), math.MinInt, nil, api.ErrRange},
	} {
		is(t, fmt.Sprint("CheckContours ", i), contour.CheckContours(x.g, x.level, x.l), x.e)
	}
}

// P6.2: contours of another pattern are none.
func TestCheckContoursOfOthers(t *testing.T) {
	all := make([][]contour.Polygon, 64)
	for bits := range all {
		all[bits], _ = contour.Contours(pattern(3, 2, bits), 0)
	}
	for bits := range all {
		for other, l := range all {
			want := api.ErrProof
			if other == bits {
				want = api.OK
			}
			is(t, fmt.Sprint("CheckContours ", bits, other), contour.CheckContours(pattern(3, 2, bits), 0, l), want)
		}
	}
}
