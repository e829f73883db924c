package air

import (
	"cmp"
	"slices"

	"flyover/api"
	"flyover/check"
	"flyover/list"
)

// checkAlong returns the first error of a direction, or OK.
func checkAlong(x api.Point) api.Errno {
	if e := check.First(check.Within(x.X, -2*MaxFar, 2*MaxFar), check.Within(x.Y, -2*MaxFar, 2*MaxFar)); e != api.OK {
		return e
	}
	if x == (api.Point{}) {
		return api.ErrZero
	}
	return api.OK
}

// signedSquare returns the square of a number, with the sign of the number.
func signedSquare(n int) int {
	return n * max(n, -n)
}

// compare compares the speeds of two layers along a direction that is not 0, 0.
func (x Layer) compare(y Layer, along api.Point) int {
	still := x.Speed - y.Speed
	if x.Wind == y.Wind {
		return cmp.Compare(still, 0)
	}
	wind := dot(x.Wind, along) - dot(y.Wind, along)
	// What is compared is still times the length of the direction, a root, with -wind; squares with their signs have the same order.
	return cmp.Compare(signedSquare(still)*dot(along, along), signedSquare(-wind))
}

// Compared compares the speeds of two layers along a direction.
func Compared(a []Layer, i, j int, along api.Point) (int, api.Errno) {
	if e := check.First(CheckAir(a), check.Index(a, i), check.Index(a, j), checkAlong(along)); e != api.OK {
		return 0, e
	}
	return a[i].compare(a[j], along), api.OK
}

// headed is a layer with the direction along which its speed counts.
type headed struct {
	placed
	along api.Point
}

// byRank says which of two layers has the first rank.
func (x headed) byRank(y headed) int {
	return cmp.Or(y.compare(x.Layer, x.along), cmp.Compare(x.index, y.index))
}

// Ranked returns the layers by their speeds along a direction.
func Ranked(a []Layer, along api.Point) ([]int, api.Errno) {
	if e := check.First(CheckAir(a), checkAlong(along)); e != api.OK {
		return nil, e
	}
	l := list.Mapped(slices.Collect(layers(a)), func(x placed) headed { return headed{x, along} })
	slices.SortFunc(l, headed.byRank)
	return list.Mapped(l, func(x headed) int { return x.index }), api.OK
}

// bent returns in which way a path is bent.
func bent(a []Layer, p Path) int {
	along := p.direction()
	if along == (api.Point{}) {
		return 0
	}
	h := p.heights()
	return layerAt(a, h[1]).compare(layerAt(a, h[0]).Layer, along)
}

// Bent returns in which way a path is bent.
func Bent(a []Layer, p Path) (int, api.Errno) {
	if e := check.First(CheckAir(a), CheckPath(p)); e != api.OK {
		return 0, e
	}
	return bent(a, p), api.OK
}

// Shadowed reports whether a path is in the shadow.
func Shadowed(a []Layer, p Path) (bool, api.Errno) {
	if e := check.First(CheckAir(a), CheckPath(p)); e != api.OK {
		return false, e
	}
	reach := Reach * (p.From.Z + p.To.Z)
	return bent(a, p) < 0 && p.square(0) > reach*reach, api.OK
}
