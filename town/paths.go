package town

import (
	"cmp"
	"iter"

	"flyover/api"
	"flyover/number"
)

// place is a spot whose parts may be ratios: those of the vector by den, which is above 0.
type place struct {
	api.Vector
	den int
}

// placeOf returns the place of a spot.
func placeOf(p api.Vector) place {
	return place{p, 1}
}

// ratio returns n by the den of a place, in lowest terms.
func (p place) ratio(n int) api.Ratio {
	return number.Ratio(n, p.den)
}

// path leads straight from one place to another one.
type path [2]place

// sides are those of both places of a path by a wall.
type sides [2]int

// straight returns the path from one spot to another one.
func straight(s, r api.Vector) path {
	return path{placeOf(s), placeOf(r)}
}

// back returns the path back.
func (p path) back() path {
	return path{p[1], p[0]}
}

// turn returns the double of the area of the triangle of three places in the plan, times their dens: above 0 if c is to the left of the way from a to b.
func turn(a, b, c place) int {
	return a.X*(b.Y*c.den-c.Y*b.den) - a.Y*(b.X*c.den-c.X*b.den) + a.den*(b.X*c.Y-c.X*b.Y)
}

// ends returns the places of A and B.
func (w Wall) ends() path {
	return straight(level(w.A, 0), level(w.B, 0))
}

// turn returns the measure of a place, times its den, with the sign of its side.
func (w Wall) turn(p place) int {
	ends := w.ends()
	return turn(ends[0], ends[1], p)
}

// side returns that of a place.
func (w Wall) side(p place) int {
	return cmp.Compare(w.turn(p), 0)
}

// meets reports whether the straight line of a path, which crosses a wall's line, meets the wall.
func (w Wall) meets(p path) bool {
	ends := w.ends()
	a, b := turn(p[0], p[1], ends[0]), turn(p[0], p[1], ends[1])
	return cmp.Compare(a, 0)*cmp.Compare(b, 0) <= 0
}

// crossing returns the place at which a path crosses the line of a wall that has its places on different sides.
func (w Wall) crossing(p path) place {
	// At least one of both places is a spot, with parts below 2^12 and a measure below 2^22; those of the other one are below 2^33 and 2^45: all products fit.
	m, n := w.turn(p[0]), w.turn(p[1])
	m, n = max(m, -m), max(n, -n)
	between := func(a, b int) int { return n*a + m*b }
	return place{
		api.Vector{X: between(p[0].X, p[1].X), Y: between(p[0].Y, p[1].Y), Z: between(p[0].Z, p[1].Z)},
		between(p[0].den, p[1].den),
	}
}

// over returns how much higher a wall is than a place, times the place's den.
func (w Wall) over(p place) int {
	return w.Height*p.den - p.Z
}

// crossed returns the place at which a wall cuts a path, and whether it does.
func (w Wall) crossed(p path) (place, bool) {
	at := sides{w.side(p[0]), w.side(p[1])}
	if at != (sides{1, -1}) && at != (sides{-1, 1}) || !w.meets(p) {
		return place{}, false
	}
	x := w.crossing(p)
	return x, w.over(x) > 0
}

// cutting visits the walls that cut a path: their indices, and the places at which they do.
func cutting(l []Wall, p path) iter.Seq2[int, place] {
	return func(yield func(int, place) bool) {
		// A path that is its own way back leads nowhere.
		if p == p.back() {
			return
		}
		for i, w := range l {
			if at, cuts := w.crossed(p); cuts && !yield(i, at) {
				return
			}
		}
	}
}

// free reports whether no wall cuts a path.
func free(l []Wall, p path) bool {
	for range cutting(l, p) {
		return false
	}
	return true
}
