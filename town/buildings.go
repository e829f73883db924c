package town

import (
	"slices"
	"strconv"

	"flyover/api"
	"flyover/check"
	"flyover/list"
)

// longest is how many bytes the name of a building has at most: those of its walls are longer by the index of a corner.
const longest = api.MaxName - len("_0")

// walls returns the walls of a building.
func (b Building) walls() []Wall {
	l := make([]Wall, len(b.Corners))
	for i := range len(b.Corners) {
		next := (i + 1) % len(b.Corners)
		l[i] = Wall{
			Name:   b.Name + "_" + strconv.Itoa(i),
			A:      b.Corners[i],
			B:      b.Corners[next],
			Height: b.Height,
			Echo:   b.Echo,
		}
	}
	return l
}

// sidesOf returns the sides of a point by all walls of a building.
func (b Building) sidesOf(p api.Point) []int {
	at := placeOf(level(p, 0))
	return list.Mapped(b.walls(), func(w Wall) int { return w.side(at) })
}

// convex reports whether by each edge all corners that are not its own have the side 1.
func (b Building) convex() bool {
	n := len(b.Corners)
	for i, p := range b.Corners {
		for j, side := range b.sidesOf(p) {
			own := i == j || i == (j+1)%n
			if !own && side != 1 {
				return false
			}
		}
	}
	return true
}

// checkCorners returns the first error of the corners of a building, or OK.
func (b Building) checkCorners() api.Errno {
	if len(b.Corners) < 3 {
		return api.ErrShort
	}
	if e := check.First(check.AtMost(b.Corners, MaxCorners), check.Each(b.Corners, checkPoint)); e != api.OK {
		return e
	}
	return check.That(b.convex(), api.ErrShape)
}

func (b Building) check() api.Errno {
	return check.First(
		checkName(b.Name),
		check.That(len(b.Name) <= longest, api.ErrName),
		b.checkCorners(),
		checkSizes(b.Height, b.Echo),
	)
}

// CheckBuildings returns the first error of buildings, or OK.
func CheckBuildings(l []Building) api.Errno {
	return check.Named(l, MaxBuildings, func(b Building, once check.Once) api.Errno {
		return check.First(b.check(), once(b.Name))
	})
}

// Walls returns the walls of buildings.
func Walls(l []Building) ([]Wall, api.Errno) {
	if e := CheckBuildings(l); e != api.OK {
		return nil, e
	}
	return slices.Concat(list.Mapped(l, Building.walls)...), api.OK
}

// Facing returns the faces of a building that are towards a point.
func Facing(b Building, p api.Point) ([]int, api.Errno) {
	if e := check.First(b.check(), checkPoint(p)); e != api.OK {
		return nil, e
	}
	var faces []int
	for i, side := range b.sidesOf(p) {
		if side < 0 {
			faces = append(faces, i)
		}
	}
	return faces, api.OK
}

// Has reports whether a building has a point.
func Has(b Building, p api.Point) (bool, api.Errno) {
	if e := check.First(b.check(), checkPoint(p)); e != api.OK {
		return false, e
	}
	return !slices.Contains(b.sidesOf(p), -1), api.OK
}

func (b Box) check() api.Errno {
	return check.First(
		checkPoint(b.From),
		checkPoint(b.To),
		check.That(b.From.X <= b.To.X && b.From.Y <= b.To.Y, api.ErrOrder),
	)
}

// misses reports whether a wall lies wholly on one side of a box.
func (w Wall) misses(b Box) bool {
	return max(w.A.X, w.B.X) < b.From.X || min(w.A.X, w.B.X) > b.To.X ||
		max(w.A.Y, w.B.Y) < b.From.Y || min(w.A.Y, w.B.Y) > b.To.Y
}

// Within returns the walls within a box.
func Within(l []Wall, b Box) ([]Wall, api.Errno) {
	if e := check.First(CheckWalls(l), b.check()); e != api.OK {
		return nil, e
	}
	return slices.DeleteFunc(slices.Clone(l), func(w Wall) bool { return w.misses(b) }), api.OK
}
