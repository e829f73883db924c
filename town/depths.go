package town

import (
	"flyover/api"
	"flyover/check"
	"flyover/number"
)

// square returns that of two spots.
func square(a, b api.Vector) int {
	x, y, z := a.X-b.X, a.Y-b.Y, a.Z-b.Z
	return x*x + y*y + z*z
}

// length returns that of the square of two spots.
func length(a, b api.Vector) api.Interval {
	return number.Root(square(a, b), 1)
}

// Length returns the length of a square.
func Length(square int) (api.Interval, api.Errno) {
	if e := check.Within(square, 0, MaxSquare); e != api.OK {
		return api.Interval{}, e
	}
	return number.Root(square, 1), api.OK
}

// detour returns the detour by e on the way from s to r.
func detour(s, e, r api.Vector) api.Interval {
	a, b, c := length(s, e), length(e, r), length(s, r)
	return api.Interval{Low: max(a.Low+b.Low-c.High, 0), High: a.High + b.High - c.Low}
}

// Detour returns the detour by a spot between two other ones.
func Detour(s, e, r api.Vector) (api.Interval, api.Errno) {
	if no := check.First(checkSpot(s), checkSpot(e), checkSpot(r)); no != api.OK {
		return api.Interval{}, no
	}
	return detour(s, e, r), api.OK
}

// depth returns that of a wall which cuts the path of two spots at a place.
func (w Wall) depth(s, r api.Vector, at place) int {
	low := min(s.Z, r.Z)
	return max(1, min(
		number.Up(w.over(at), at.den),
		detour(s, level(w.A, low), r).Low,
		detour(s, level(w.B, low), r).Low,
	))
}

// depths returns those of all walls for a path, and their sum.
func depths(l []Wall, s, r api.Vector) ([]int, int) {
	all, sum := make([]int, len(l)), 0
	for i, at := range cutting(l, straight(s, r)) {
		all[i] = l[i].depth(s, r, at)
		sum += all[i]
	}
	return all, sum
}

// Depth returns the depth of a wall for a path.
func Depth(w Wall, s, r api.Vector) (int, api.Errno) {
	if e := check.First(w.check(), checkSpots(s, r)); e != api.OK {
		return 0, e
	}
	_, sum := depths([]Wall{w}, s, r)
	return sum, api.OK
}

// Depths returns the depths of all walls for a path, and their sum.
func Depths(l []Wall, s, r api.Vector) ([]int, int, api.Errno) {
	if e := check.First(CheckWalls(l), checkSpots(s, r)); e != api.OK {
		return nil, 0, e
	}
	all, sum := depths(l, s, r)
	return all, sum, api.OK
}
