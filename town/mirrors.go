package town

import (
	"cmp"
	"iter"
	"slices"

	"flyover/api"
	"flyover/check"
)

// even reports whether a wall's mirror shows spots at spots.
func (w Wall) even() bool {
	x, y := w.B.X-w.A.X, w.B.Y-w.A.Y
	return x == 0 || y == 0 || x == y || x == -y
}

// image returns the image of a spot by an even wall.
func (w Wall) image(s api.Vector) api.Vector {
	// From the line to its left.
	x, y := w.A.Y-w.B.Y, w.B.X-w.A.X
	// As the wall is even, the quotients below are integers.
	double, length := 2*w.turn(placeOf(s)), x*x+y*y
	return api.Vector{X: s.X - double*x/length, Y: s.Y - double*y/length, Z: s.Z}
}

// Image returns the image of a spot by a wall.
func Image(w Wall, s api.Vector) (api.Vector, api.Errno) {
	if e := check.First(w.check(), checkSpot(s), check.That(w.even(), api.ErrRule)); e != api.OK {
		return api.Vector{}, e
	}
	return w.image(s), api.OK
}

// mirror returns that of an even wall for a path, and whether the wall reflects it.
func mirror(l []Wall, wall int, s, r api.Vector) (Mirror, bool) {
	image := l[wall].image(s)
	at, ok := l[wall].crossed(straight(image, r))
	// The wall itself is no obstacle: the place lies on its line.
	if !ok || !free(l, path{placeOf(s), at}) || !free(l, path{at, placeOf(r)}) {
		return Mirror{}, false
	}
	return Mirror{
		Wall:   wall,
		Image:  image,
		X:      at.ratio(at.X),
		Y:      at.ratio(at.Y),
		Z:      at.ratio(at.Z),
		Square: square(image, r),
	}, true
}

// Reflected returns the mirror of a wall that reflects a path.
func Reflected(l []Wall, wall int, s, r api.Vector) (Mirror, api.Errno) {
	if e := check.First(CheckWalls(l), check.Index(l, wall), checkSpots(s, r)); e != api.OK {
		return Mirror{}, e
	}
	if !l[wall].even() {
		return Mirror{}, api.ErrRule
	}
	x, ok := mirror(l, wall, s, r)
	if !ok {
		return Mirror{}, api.ErrNone
	}
	return x, api.OK
}

// reflecting visits the mirrors of the walls that reflect a path.
func reflecting(l []Wall, s, r api.Vector) iter.Seq[Mirror] {
	return func(yield func(Mirror) bool) {
		for i, w := range l {
			if !w.even() {
				continue
			}
			if x, ok := mirror(l, i, s, r); ok && !yield(x) {
				return
			}
		}
	}
}

// compare compares two mirrors by their walls.
func (x Mirror) compare(y Mirror) int {
	return cmp.Compare(x.Wall, y.Wall)
}

// mirrors returns those of all walls that reflect a path.
func mirrors(l []Wall, s, r api.Vector) []Mirror {
	return slices.SortedFunc(reflecting(l, s, r), Mirror.compare)
}

// Mirrors returns the mirrors of all walls that reflect a path.
func Mirrors(l []Wall, s, r api.Vector) ([]Mirror, api.Errno) {
	if e := check.First(CheckWalls(l), checkSpots(s, r)); e != api.OK {
		return nil, e
	}
	return mirrors(l, s, r), api.OK
}
