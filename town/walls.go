package town

import (
	"flyover/api"
	"flyover/check"
	"flyover/sound"
)

// limit is the least and the greatest value of a part of a spot.
type limit struct {
	low  int
	high int
	part func(api.Vector) int
}

// limits returns those of all parts of a spot.
func limits() [3]limit {
	return [3]limit{
		{-MaxPlace, MaxPlace, func(p api.Vector) int { return p.X }},
		{-MaxPlace, MaxPlace, func(p api.Vector) int { return p.Y }},
		{0, MaxHeight, func(p api.Vector) int { return p.Z }},
	}
}

func checkSpot(p api.Vector) api.Errno {
	parts := limits()
	return check.Each(parts[:], func(x limit) api.Errno { return check.Within(x.part(p), x.low, x.high) })
}

// checkSpots returns the first error of both spots of a path, or OK.
func checkSpots(s, r api.Vector) api.Errno {
	return check.First(checkSpot(s), checkSpot(r))
}

// level returns the spot at a point of the plan, at a height.
func level(p api.Point, height int) api.Vector {
	return api.Vector{X: p.X, Y: p.Y, Z: height}
}

func checkPoint(p api.Point) api.Errno {
	return checkSpot(level(p, 0))
}

func checkName(s string) api.Errno {
	return check.That(sound.IsName(s), api.ErrName)
}

// checkSizes returns the first error of the height and the echo of a wall or a building, or OK.
func checkSizes(height, echo int) api.Errno {
	return check.First(check.Within(height, 1, MaxHeight), check.Within(echo, 0, Whole))
}

func (w Wall) check() api.Errno {
	return check.First(
		checkName(w.Name),
		checkPoint(w.A),
		checkPoint(w.B),
		check.That(w.A != w.B, api.ErrConflict),
		checkSizes(w.Height, w.Echo),
	)
}

// CheckWalls returns the first error of walls, or OK.
func CheckWalls(l []Wall) api.Errno {
	return check.Named(l, MaxWalls, func(w Wall, once check.Once) api.Errno {
		return check.First(w.check(), once(w.Name))
	})
}

// Side returns the side of a point by a wall.
func Side(w Wall, p api.Point) (int, api.Errno) {
	if e := check.First(w.check(), checkPoint(p)); e != api.OK {
		return 0, e
	}
	return w.side(placeOf(level(p, 0))), api.OK
}

// Cuts reports whether a wall cuts a path.
func Cuts(w Wall, s, r api.Vector) (bool, api.Errno) {
	if e := check.First(w.check(), checkSpots(s, r)); e != api.OK {
		return false, e
	}
	_, cuts := w.crossed(straight(s, r))
	return cuts, api.OK
}

// Excess returns the excess of a wall that cuts a path.
func Excess(w Wall, s, r api.Vector) (api.Ratio, api.Errno) {
	if e := check.First(w.check(), checkSpots(s, r)); e != api.OK {
		return api.Ratio{}, e
	}
	at, cuts := w.crossed(straight(s, r))
	if !cuts {
		return api.Ratio{}, api.ErrNone
	}
	return at.ratio(w.over(at)), api.OK
}
