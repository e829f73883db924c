package town_test

import (
	"fmt"
	"math"
	"math/rand"
	"testing"

	"flyover/api"
	"flyover/town"
)

// P4.3: images of spots.
func TestImage(t *testing.T) {
	for i, x := range []struct {
		w town.Wall
		s api.Vector
		v api.Vector
		e api.Errno
	}{
		{screen(6), spotS, at(8, 0, 2), api.OK}, {screen(6), at(3, 1, 2), at(-3, 1, 2), api.OK}, {screen(6), at(0, 50, 7), at(0, 50, 7), api.OK},
		{wall("w", point(0, 10), point(0, -10), 6), at(3, 1, 2), at(-3, 1, 2), api.OK}, {wall("w", point(0, 4), point(9, 4), 6), at(3, 1, 2), at(3, 7, 2), api.OK},
		{wall("w", point(0, 0), point(5, 5), 6), at(3, 1, 2), at(1, 3, 2), api.OK}, {wall("w", point(5, 5), point(0, 0), 6), at(3, 1, 2), at(1, 3, 2), api.OK},
		{wall("w", point(5, 0), point(0, 5), 6), at(3, 1, 2), at(4, 2, 2), api.OK}, {wall("w", point(2, 3), point(3, 4), 6), at(0, 0, 9), at(-1, 1, 9), api.OK},
		{wall("w", point(900, 0), point(900, 1), 6), at(3, 1, 2), at(1797, 1, 2), api.OK},
		{wall("w", point(-1000, 0), point(-1000, 7), 6), at(1000, 1000, 1000), at(-3000, 1000, 1000), api.OK},
		{wall("w", point(-1000, 1000), point(-999, 999), 6), at(1000, 1000, 0), at(-1000, -1000, 0), api.OK},
		{wall("w", point(0, 1000), point(1, 1000), 6), at(-1000, -1000, 0), at(-1000, 3000, 0), api.OK},
		{wall("w", point(-1000, -1000), point(1000, 1000), 6), at(-1000, 1000, 1), at(1000, -1000, 1), api.OK},
		{wall("w", point(0, 0), point(2, 1), 6), at(0, 0, 0), at(0, 0, 0), api.ErrRule}, {wall("w", point(0, 0), point(1, 2), 6), at(0, 0, 0), at(0, 0, 0), api.ErrRule},
		{wall("w", point(0, 0), point(-3, 2), 6), at(0, 0, 0), at(0, 0, 0), api.ErrRule}, {wall("w", point(0, 0), point(999, 1000), 6), at(0, 0, 0), at(0, 0, 0), api.ErrRule},
		{wall("w", point(0, 0), point(2, 1), 6), far, at(0, 0, 0), api.ErrRange}, {screen(6), at(0, -1001, 0), at(0, 0, 0), api.ErrRange},
		{badWall(), far, at(0, 0, 0), api.ErrConflict}, {town.Wall{}, spotS, at(0, 0, 0), api.ErrName},
	} {
		v, e := town.Image(x.w, x.s)
		is(t, fmt.Sprint("Image ", i), v, x.v)
		is(t, fmt.Sprint("error of Image ", i), e, x.e)
	}
}

// P4.3: mirrors of walls.
func TestReflected(t *testing.T) {
	w := town.Mirror{Image: at(8, 0, 2), X: ratio(0, 1), Y: ratio(4, 1), Z: ratio(2, 1), Square: 180}
	for i, x := range []struct {
		w    town.Wall
		s, r api.Vector
		m    town.Mirror
	}{
		{screen(6), spotS, spotQ, w},
		{screen(6), at(-3, 0, 0), at(-3, 3, 1), town.Mirror{Image: at(3, 0, 0), X: ratio(0, 1), Y: ratio(3, 2), Z: ratio(1, 2), Square: 46}},
		{wall("w", point(10, -5), point(-10, -5), 6), at(-1, 2, 3), at(2, 0, 0), town.Mirror{Image: at(-1, -12, 3), X: ratio(3, 4), Y: ratio(-5, 1), Z: ratio(5, 4), Square: 162}},
		{wall("w", point(-9, -9), point(9, 9), 6), at(-6, -4, 1), at(1, 2, 1), town.Mirror{Image: at(-4, -6, 1), X: ratio(-2, 3), Y: ratio(-2, 3), Z: ratio(1, 1), Square: 89}},
		// From a spot to itself, and to one above it.
		{screen(6), spotS, spotS, town.Mirror{Image: at(8, 0, 2), X: ratio(0, 1), Y: ratio(0, 1), Z: ratio(2, 1), Square: 256}},
		{screen(6), spotS, at(-8, 0, 7), town.Mirror{Image: at(8, 0, 2), X: ratio(0, 1), Y: ratio(0, 1), Z: ratio(9, 2), Square: 281}},
		// As far as it goes: the square is above MaxSquare.
		{wall("w", point(-1000, -1000), point(-1000, 1000), 1000), at(1000, -1000, 0), at(1000, 1000, 1000), town.Mirror{Image: at(-3000, -1000, 0), X: ratio(-1000, 1), Y: ratio(0, 1), Z: ratio(500, 1), Square: 21000000}},
	} {
		m, e := town.Reflected([]town.Wall{x.w}, 0, x.s, x.r)
		is(t, fmt.Sprint("Reflected ", i), m, x.m)
		is(t, fmt.Sprint("error of Reflected ", i), e, api.OK)
		l, e := town.Mirrors([]town.Wall{x.w}, x.s, x.r)
		are(t, fmt.Sprint("Mirrors ", i), l, []town.Mirror{x.m})
		is(t, fmt.Sprint("error of Mirrors ", i), e, api.OK)
	}
}

// P4.3: which walls reflect, and which ones are in the way; and the errors.
func TestReflectedOrNot(t *testing.T) {
	with := func(l ...town.Wall) []town.Wall { return append([]town.Wall{screen(6)}, l...) }
	slope := wall("v", point(0, -10), point(1, 10), 6)
	for i, x := range []struct {
		l    []town.Wall
		wall int
		s, r api.Vector
		e    api.Errno
	}{
		{with(), 0, spotS, spotQ, api.OK}, {[]town.Wall{screen(3)}, 0, spotS, spotQ, api.OK}, {[]town.Wall{screen(2)}, 0, spotS, spotQ, api.ErrNone},
		// The place is at 0, 4: the ends of the wall are of the wall.
		{[]town.Wall{wall("w", point(0, -10), point(0, 4), 6)}, 0, spotS, spotQ, api.OK}, {[]town.Wall{wall("w", point(0, -10), point(0, 3), 6)}, 0, spotS, spotQ, api.ErrNone},
		{[]town.Wall{wall("w", point(0, 4), point(0, 5), 6)}, 0, spotS, spotQ, api.OK}, {[]town.Wall{wall("w", point(0, 5), point(0, 6), 6)}, 0, spotS, spotQ, api.ErrNone},
		// Both spots must have one side, and not 0; either side will do.
		{with(), 0, spotS, at(4, 6, 2), api.ErrNone}, {with(), 0, spotS, at(0, 6, 2), api.ErrNone}, {with(), 0, at(0, 6, 2), spotS, api.ErrNone}, {with(), 0, at(0, 6, 2), at(0, 5, 2), api.ErrNone},
		{with(), 0, at(8, 0, 2), at(4, 6, 2), api.OK}, {with(), 0, spotQ, spotS, api.OK},
		// Walls in the way, before and after the place; low ones, ones that end before it, and ones on whose line it lies.
		{with(wall("v", point(-3, 0), point(-3, 20), 9)), 0, spotS, spotQ, api.ErrNone}, {with(wall("v", point(-3, 0), point(-3, 20), 2)), 0, spotS, spotQ, api.OK},
		{with(wall("v", point(-6, -20), point(-6, 20), 9)), 0, spotS, spotQ, api.ErrNone}, {with(wall("v", point(-6, 2), point(-6, 20), 9)), 0, spotS, spotQ, api.OK},
		{with(wall("v", point(-6, 1), point(-6, 20), 9)), 0, spotS, spotQ, api.ErrNone}, {with(wall("v", point(-1, 4), point(5, 4), 9)), 0, spotS, spotQ, api.OK},
		{with(wall("v", point(0, 4), point(5, 4), 9)), 0, spotS, spotQ, api.OK}, {with(wall("v", point(0, -20), point(0, 20), 1)), 0, spotS, spotQ, api.OK},
		{with(wall("v", point(2, -20), point(2, 20), 9)), 0, spotS, spotQ, api.OK}, {with(wall("v", point(-7, 2), point(-5, 2), 9)), 0, spotS, spotQ, api.OK},
		{with(slope), 0, spotS, spotQ, api.OK}, {with(slope), 1, spotS, spotQ, api.ErrRule}, {with(slope), 1, at(0, -10, 0), at(0, -10, 0), api.ErrRule},
		{with(), -1, far, far, api.ErrUnknown}, {with(), 1, far, far, api.ErrUnknown}, {nil, 0, far, far, api.ErrUnknown}, {with(), math.MinInt, spotS, spotQ, api.ErrUnknown},
		{[]town.Wall{slope}, 0, far, spotQ, api.ErrRange}, {[]town.Wall{slope}, 0, spotS, far, api.ErrRange},
		{with(screen(6)), 9, far, far, api.ErrTwice}, {[]town.Wall{badWall()}, 0, spotS, spotQ, api.ErrConflict}, {make([]town.Wall, 33), 0, spotS, spotQ, api.ErrMany},
	} {
		m, e := town.Reflected(x.l, x.wall, x.s, x.r)
		is(t, fmt.Sprint("error of Reflected ", i), e, x.e)
		is(t, fmt.Sprint("Reflected has a square ", i), m.Square > 0, x.e == api.OK)
		if x.e != api.OK {
			is(t, fmt.Sprint("Reflected beside the error ", i), m, town.Mirror{})
		}
	}
}

// P4.3: the mirrors of all walls, and the errors.
func TestMirrors(t *testing.T) {
	w := town.Mirror{Wall: 1, Image: at(8, 0, 2), X: ratio(0, 1), Y: ratio(4, 1), Z: ratio(2, 1), Square: 180}
	v := town.Mirror{Wall: 2, Image: at(-12, 0, 2), X: ratio(-10, 1), Y: ratio(3, 2), Z: ratio(2, 1), Square: 100}
	slope := wall("u", point(-30, -20), point(-20, 15), 9)
	row := []town.Wall{slope, screen(6), wall("v", point(-10, -10), point(-10, 10), 6), wall("t", point(0, 20), point(9, 20), 9)}
	for i, x := range []struct {
		l    []town.Wall
		s, r api.Vector
		m    []town.Mirror
		e    api.Errno
	}{
		{row, spotS, spotQ, []town.Mirror{w, v}, api.OK}, {row[:2], spotS, spotQ, []town.Mirror{w}, api.OK}, {row[:1], spotS, spotQ, nil, api.OK}, {nil, spotS, spotQ, nil, api.OK},
		{row, far, spotQ, nil, api.ErrRange}, {row, spotS, far, nil, api.ErrRange}, {append(row, badWall()), far, far, nil, api.ErrConflict}, {make([]town.Wall, 33), far, far, nil, api.ErrMany},
	} {
		m, e := town.Mirrors(x.l, x.s, x.r)
		are(t, fmt.Sprint("Mirrors ", i), m, x.m)
		is(t, fmt.Sprint("error of Mirrors ", i), e, x.e)
	}
}

// isEven reports whether the mirror of a wall shows spots at spots.
func isEven(w town.Wall) bool {
	x, y := w.B.X-w.A.X, w.B.Y-w.A.Y
	return x*y == 0 || x*x == y*y
}

// reflects returns the mirror of an even wall by ratios, and whether it reflects.
func reflects(t *testing.T, l []town.Wall, i int, s, r api.Vector) (town.Mirror, bool) {
	w := l[i]
	foot := towards(plan(w.A), plan(w.B), along(w, spot(s)))
	image := towards(spot(s), foot, rat(2))
	image[2] = rat(s.Z)
	if measured(w, spot(s)).Sign()*measured(w, spot(r)).Sign() <= 0 {
		return town.Mirror{}, false
	}
	x, ok := through(w, image, spot(r))
	if !ok {
		return town.Mirror{}, false
	}
	for j, other := range l {
		_, before := through(other, spot(s), x)
		_, after := through(other, x, spot(r))
		if j != i && (before || after) {
			return town.Mirror{}, false
		}
	}
	m := town.Mirror{Wall: i, Image: at(asInt(t, image[0]), asInt(t, image[1]), asInt(t, image[2])), X: asRatio(x[0]), Y: asRatio(x[1]), Z: asRatio(x[2])}
	m.Square = squared(m.Image, r)
	return m, true
}

// mirrorsByRatios compares all mirrors of walls with what ratios say, and returns how many walls reflect.
func mirrorsByRatios(t *testing.T, r *rand.Rand, n, reach int) int {
	l, s, to := someWalls(r, n, reach), someSpot(r, reach), someSpot(r, reach)
	var all []town.Mirror
	for i, w := range l {
		what := fmt.Sprint(l, i, s, to)
		m, e := town.Reflected(l, i, s, to)
		image, no := town.Image(w, s)
		if !isEven(w) {
			is(t, "error of Reflected of "+what, e, api.ErrRule)
			is(t, "error of Image of "+what, no, api.ErrRule)
			continue
		}
		is(t, "error of Image of "+what, no, api.OK)
		want, ok := reflects(t, l, i, s, to)
		is(t, "Reflected of "+what, m, want)
		if !ok {
			is(t, "error of Reflected of "+what, e, api.ErrNone)
			continue
		}
		is(t, "error of Reflected of "+what, e, api.OK)
		is(t, "Image of "+what, image, want.Image)
		all = append(all, want)
	}
	mirrors, e := town.Mirrors(l, s, to)
	is(t, "error of Mirrors", e, api.OK)
	are(t, fmt.Sprint("Mirrors of ", l, s, to), mirrors, all)
	return len(all)
}

// P4.3: walls reflect what they do by ratios.
func TestMirrorsByRatios(t *testing.T) {
	r := seeded()
	for _, x := range []struct{ n, reach int }{{1, 5}, {3, 6}, {4, 10}, {2, 1000}, {6, 1000}, {32, 300}} {
		found := 0
		for range 4000 / x.n {
			found += mirrorsByRatios(t, r, x.n, x.reach)
		}
		is(t, fmt.Sprint("some reflect: ", found), found > 9, true)
	}
}
