package town_test

import (
	"fmt"
	"math"
	"math/rand"
	"strings"
	"testing"

	"flyover/api"
	"flyover/town"
)

// P4.1: the errors of walls, in their order.
func TestCheckWalls(t *testing.T) {
	for i, x := range []struct {
		change func(w *town.Wall)
		e      api.Errno
	}{
		{func(w *town.Wall) {}, api.OK}, {func(w *town.Wall) { w.Name = strings.Repeat("a", 24) }, api.OK},
		{func(w *town.Wall) { w.A, w.B = point(-1000, -1000), point(1000, 1000) }, api.OK},
		{func(w *town.Wall) { w.Height, w.Echo = 1, 0 }, api.OK}, {func(w *town.Wall) { w.Height, w.Echo = 1000, 1000 }, api.OK},
		{func(w *town.Wall) { w.Name = "" }, api.ErrName}, {func(w *town.Wall) { w.Name = strings.Repeat("a", 25) }, api.ErrName},
		{func(w *town.Wall) { w.Name = "_w" }, api.ErrName}, {func(w *town.Wall) { w.Name = "w x" }, api.ErrName},
		{func(w *town.Wall) { w.A.X = 1001 }, api.ErrRange}, {func(w *town.Wall) { w.A.X = -1001 }, api.ErrRange},
		{func(w *town.Wall) { w.A.Y = 1001 }, api.ErrRange}, {func(w *town.Wall) { w.A.Y = -1001 }, api.ErrRange},
		{func(w *town.Wall) { w.B.X = 1001 }, api.ErrRange}, {func(w *town.Wall) { w.B.X = -1001 }, api.ErrRange},
		{func(w *town.Wall) { w.B.Y = 1001 }, api.ErrRange}, {func(w *town.Wall) { w.B.Y = -1001 }, api.ErrRange},
		{func(w *town.Wall) { w.B = w.A }, api.ErrConflict},
		{func(w *town.Wall) { w.Height = 0 }, api.ErrRange}, {func(w *town.Wall) { w.Height = 1001 }, api.ErrRange},
		{func(w *town.Wall) { w.Echo = -1 }, api.ErrRange}, {func(w *town.Wall) { w.Echo = 1001 }, api.ErrRange},
		{func(w *town.Wall) { w.Name, w.A.X = "", 1001 }, api.ErrName}, {func(w *town.Wall) { w.Name, w.B = "", w.A }, api.ErrName},
		{func(w *town.Wall) { w.A.X, w.B.X, w.A.Y, w.B.Y = 2000, 2000, 0, 0 }, api.ErrRange},
		{func(w *town.Wall) { w.B, w.Height = w.A, 0 }, api.ErrConflict}, {func(w *town.Wall) { w.B, w.Echo = w.A, -1 }, api.ErrConflict},
		{func(w *town.Wall) { w.A.X, w.Height, w.Echo = math.MinInt, math.MaxInt, math.MinInt }, api.ErrRange},
	} {
		is(t, fmt.Sprint("CheckWalls ", i), town.CheckWalls([]town.Wall{changed(x.change)}), x.e)
		is(t, fmt.Sprint("CheckWalls of the second one ", i), town.CheckWalls([]town.Wall{wall("v", point(0, 0), point(1, 0), 1), changed(x.change)}), x.e)
	}
}

// P4.1: how many walls there may be, and names that are there twice.
func TestCheckWallsTogether(t *testing.T) {
	many := someWalls(seeded(), 33, 9)
	twice := append(someWalls(seeded(), 31, 9), many[0])
	for i, x := range []struct {
		l []town.Wall
		e api.Errno
	}{
		{nil, api.OK}, {many[:32], api.OK}, {many, api.ErrMany}, {make([]town.Wall, 33), api.ErrMany}, {make([]town.Wall, 32), api.ErrName},
		{twice, api.ErrTwice}, {[]town.Wall{screen(6), screen(7)}, api.ErrTwice},
		{[]town.Wall{screen(6), wall("W", point(0, 0), point(0, 1), 1)}, api.OK},
		{[]town.Wall{screen(6), badWall()}, api.ErrConflict}, {[]town.Wall{screen(6), screen(0)}, api.ErrRange},
		{[]town.Wall{screen(6), screen(6), {}}, api.ErrTwice}, {[]town.Wall{screen(6), {}, screen(6)}, api.ErrName},
	} {
		is(t, fmt.Sprint("CheckWalls ", i), town.CheckWalls(x.l), x.e)
	}
}

// P4.1: sides of points.
func TestSide(t *testing.T) {
	corner := wall("w", point(-1000, -1000), point(1000, 1000), 1)
	for i, x := range []struct {
		w    town.Wall
		p    api.Point
		side int
		e    api.Errno
	}{
		{screen(6), point(-8, 0), 1, api.OK}, {screen(6), point(4, 0), -1, api.OK}, {screen(6), point(0, 50), 0, api.OK}, {screen(6), point(0, 3), 0, api.OK},
		{screen(6), point(-1, 1000), 1, api.OK}, {screen(6), point(1, -1000), -1, api.OK},
		{wall("w", point(0, 10), point(0, -10), 6), point(-8, 0), -1, api.OK}, {wall("w", point(0, 0), point(2, 1), 6), point(4, 2), 0, api.OK},
		{wall("w", point(0, 0), point(2, 1), 6), point(4, 3), 1, api.OK}, {wall("w", point(0, 0), point(2, 1), 6), point(-4, -3), -1, api.OK},
		{corner, point(-1000, 1000), 1, api.OK}, {corner, point(1000, -1000), -1, api.OK}, {corner, point(999, 999), 0, api.OK}, {corner, point(999, 1000), 1, api.OK},
		{screen(6), point(1001, 0), 0, api.ErrRange}, {screen(6), point(-1001, 0), 0, api.ErrRange}, {screen(6), point(0, 1001), 0, api.ErrRange},
		{screen(6), point(0, -1001), 0, api.ErrRange}, {screen(6), point(math.MinInt, math.MaxInt), 0, api.ErrRange},
		{badWall(), point(1001, 0), 0, api.ErrConflict}, {town.Wall{}, point(0, 0), 0, api.ErrName}, {screen(0), point(0, 0), 0, api.ErrRange},
	} {
		n, e := town.Side(x.w, x.p)
		is(t, fmt.Sprint("Side ", i), n, x.side)
		is(t, fmt.Sprint("error of Side ", i), e, x.e)
	}
}

// P4.1: walls that cut, and their excess.
func TestCutsAndExcess(t *testing.T) {
	none := ratio(0, 0)
	for i, x := range []struct {
		w      town.Wall
		s, r   api.Vector
		excess api.Ratio
		e      api.Errno
	}{
		{screen(6), spotS, spotR, ratio(2, 1), api.OK}, {screen(6), spotR, spotS, ratio(2, 1), api.OK}, {screen(60), spotS, spotR, ratio(56, 1), api.OK},
		// The path must be lower than the wall.
		{screen(5), spotS, spotR, ratio(1, 1), api.OK}, {screen(4), spotS, spotR, none, api.ErrNone}, {screen(3), spotS, spotR, none, api.ErrNone},
		{screen(4), spotS, at(4, 0, 4), ratio(2, 3), api.OK}, {screen(1), at(-1, 0, 0), at(1, 0, 1), ratio(1, 2), api.OK},
		{screen(1), at(-1, 0, 0), at(1, 0, 2), none, api.ErrNone}, {screen(1), at(-1, 0, 0), at(1, 0, 0), ratio(1, 1), api.OK},
		// Both ends of the wall are of the wall.
		{screen(6), at(-8, 10, 2), at(4, 10, 2), ratio(4, 1), api.OK}, {screen(6), at(-8, 11, 2), at(4, 11, 2), none, api.ErrNone},
		{screen(6), at(-8, -10, 2), at(4, -10, 2), ratio(4, 1), api.OK}, {screen(6), at(-8, -11, 2), at(4, -11, 2), none, api.ErrNone},
		{screen(6), at(-1, 9, 0), at(1, 11, 0), ratio(6, 1), api.OK}, {screen(6), at(-1, 9, 0), at(2, 13, 0), none, api.ErrNone},
		// A spot on the line, and spots on one side.
		{screen(6), spotS, at(0, 0, 2), none, api.ErrNone}, {screen(6), at(0, 0, 2), spotR, none, api.ErrNone}, {screen(6), at(0, -20, 2), at(0, 20, 2), none, api.ErrNone},
		{screen(6), spotS, at(-1, 0, 2), none, api.ErrNone}, {screen(6), at(1, 0, 2), spotR, none, api.ErrNone},
		{screen(6), spotS, spotS, none, api.ErrNone}, {screen(6), spotS, at(-8, 0, 0), none, api.ErrNone}, {screen(6), at(0, 0, 2), at(0, 0, 2), none, api.ErrNone},
		// A ratio, also with great numbers.
		{screen(6), at(-1, 0, 2), at(2, 0, 4), ratio(10, 3), api.OK},
		{wall("w", point(-1000, -999), point(1000, 1000), 1000), at(-1000, 1000, 0), at(1000, -1000, 1), ratio(3997001, 3999), api.OK},
		{wall("w", point(-1000, -999), point(1000, 1000), 1000), at(-999, 1000, 0), at(999, -1000, 1), ratio(7990005999, 7994002), api.OK},
		{screen(6), at(0, 0, -1), far, none, api.ErrRange}, {screen(6), at(-1001, 0, 0), spotR, none, api.ErrRange}, {screen(6), spotS, at(0, 1001, 0), none, api.ErrRange},
		{screen(6), spotS, far, none, api.ErrRange}, {screen(6), spotS, at(0, -1001, 0), none, api.ErrRange}, {screen(6), at(1001, 0, 0), spotR, none, api.ErrRange},
		{badWall(), far, far, none, api.ErrConflict}, {town.Wall{}, spotS, spotR, none, api.ErrName},
	} {
		excess, e := town.Excess(x.w, x.s, x.r)
		is(t, fmt.Sprint("Excess ", i), excess, x.excess)
		is(t, fmt.Sprint("error of Excess ", i), e, x.e)
		cuts, e := town.Cuts(x.w, x.s, x.r)
		is(t, fmt.Sprint("Cuts ", i), cuts, x.e == api.OK)
		if x.e == api.ErrNone {
			x.e = api.OK
		}
		is(t, fmt.Sprint("error of Cuts ", i), e, x.e)
	}
}

// cutsByRatios compares Cuts and Excess with what ratios say, and returns whether the wall cuts.
func cutsByRatios(t *testing.T, r *rand.Rand, reach int) bool {
	w, s, to := someWall(r, "w", reach), someSpot(r, reach), someSpot(r, reach)
	x, want := through(w, spot(s), spot(to))
	what := fmt.Sprint(w, s, to)
	cuts, e := town.Cuts(w, s, to)
	is(t, "error of Cuts of "+what, e, api.OK)
	is(t, "Cuts of "+what, cuts, want)
	excess, e := town.Excess(w, s, to)
	if !want {
		is(t, "Excess of "+what, excess, ratio(0, 0))
		is(t, "error of Excess of "+what, e, api.ErrNone)
		return false
	}
	is(t, "Excess of "+what, excess, asRatio(sub(rat(w.Height), x[2])))
	is(t, "error of Excess of "+what, e, api.OK)
	return true
}

// P4.1: walls cut, and exceed, what they do by ratios.
func TestCutsByRatios(t *testing.T) {
	r := seeded()
	for _, reach := range []int{4, 10, 1000} {
		cut := 0
		for range 4000 {
			if cutsByRatios(t, r, reach) {
				cut++
			}
		}
		is(t, "some cut, and some do not", cut > 300 && cut < 3700, true)
	}
}
