package contour

import (
	"iter"
	"slices"

	"flyover/api"
	"flyover/check"
)

// side is one of a cell: its ends as they are for the cell 0 0, with the cell on the left, and how far the neighbour on its other side lies from the cell.
type side struct {
	ends      ends
	neighbour api.Point
}

// cellSides has those of a cell: below, on its right, above, on its left.
var cellSides = [4]side{
	{ends: ends{{X: 0, Y: 0}, {X: 1, Y: 0}}, neighbour: api.Point{X: 0, Y: -1}},
	{ends: ends{{X: 1, Y: 0}, {X: 1, Y: 1}}, neighbour: api.Point{X: 1, Y: 0}},
	{ends: ends{{X: 1, Y: 1}, {X: 0, Y: 1}}, neighbour: api.Point{X: 0, Y: 1}},
	{ends: ends{{X: 0, Y: 1}, {X: 0, Y: 0}}, neighbour: api.Point{X: -1, Y: 0}},
}

// edge is one of a level, with its cell.
type edge struct {
	ends
	cell api.Point
}

// edges visits those of a level.
func (g Grid) edges(level int) iter.Seq[edge] {
	return func(yield func(edge) bool) {
		above := g.above(level)
		within := func(cell api.Point) bool { return g.has(cell) && above[g.index(cell)] }
		for i := range g.cells() {
			cell := g.cell(i)
			for _, x := range cellSides {
				leads := within(cell) && !within(plus(cell, x.neighbour))
				if leads && !yield(edge{x.ends.moved(cell), cell}) {
					return
				}
			}
		}
	}
}

// beginnings has the edges of a level by the corners at which they begin: two where cells have just this corner in common.
type beginnings map[api.Point][]edge

// beginningsOf returns those of the edges of a level.
func beginningsOf(edges iter.Seq[edge]) beginnings {
	b := beginnings{}
	for x := range edges {
		b[x.ends[0]] = append(b[x.ends[0]], x)
	}
	return b
}

// after returns the edge after another one: if two begin where this ends, that of the same cell.
func (b beginnings) after(x edge) edge {
	var next edge
search:
	for _, y := range b[x.ends[1]] {
		next = y
		if y.cell == x.cell {
			break search
		}
	}
	return next
}

// way returns the closed way of edges that begins with one.
func (b beginnings) way(first edge) []edge {
	way := []edge{first}
	// Each edge has one before it, too, so that the first one comes again before any other one does.
	for x := b.after(first); x.ends != first.ends; x = b.after(x) {
		way = append(way, x)
	}
	return way
}

// polygon returns that of a closed way.
func polygon(way []edge) Polygon {
	var p Polygon
	before := way[len(way)-1]
	for _, x := range way {
		if x.direction() != before.direction() {
			p = append(p, x.ends[0])
		}
		before = x
	}
	first := slices.Index(p, slices.MinFunc(p, compareCorners))
	return slices.Concat(p[first:], p[:first])
}

// contours returns those of a level.
func (g Grid) contours(level int) []Polygon {
	edges := g.edges(level)
	begin := beginningsOf(edges)
	seen := map[ends]bool{}
	var l []Polygon
	for x := range edges {
		if seen[x.ends] {
			continue
		}
		way := begin.way(x)
		for _, y := range way {
			seen[y.ends] = true
		}
		l = append(l, polygon(way))
	}
	slices.SortFunc(l, Polygon.compare)
	return l
}

// Contours returns the contours of a level.
func Contours(g Grid, level int) ([]Polygon, api.Errno) {
	if e := check.First(CheckGrid(g), checkLevel(level)); e != api.OK {
		return nil, e
	}
	return g.contours(level), api.OK
}

// CheckContours returns OK for polygons that have just the cells within a level.
func CheckContours(g Grid, level int, l []Polygon) api.Errno {
	if e := check.First(CheckGrid(g), checkLevel(level), checkPolygons(l)); e != api.OK {
		return e
	}
	for i, within := range g.above(level) {
		if inside(l, g.cell(i)) != within {
			return api.ErrProof
		}
	}
	return api.OK
}
