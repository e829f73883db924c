package town_test

import (
	"fmt"
	"math"
	"testing"

	"flyover/api"
	"flyover/town"
)

// P4.1: lengths of squares.
func TestLength(t *testing.T) {
	for i, x := range []struct {
		n int
		l api.Interval
		e api.Errno
	}{
		{0, of(0, 0), api.OK}, {1, of(1, 1), api.OK}, {2, of(1, 2), api.OK}, {3, of(1, 2), api.OK}, {4, of(2, 2), api.OK},
		{143, of(11, 12), api.OK}, {144, of(12, 12), api.OK}, {145, of(12, 13), api.OK}, {9000000, of(3000, 3000), api.OK},
		{19998784, of(4472, 4472), api.OK}, {20000000, of(4472, 4473), api.OK},
		{20000001, of(0, 0), api.ErrRange}, {-1, of(0, 0), api.ErrRange}, {math.MaxInt, of(0, 0), api.ErrRange}, {math.MinInt, of(0, 0), api.ErrRange},
	} {
		l, e := town.Length(x.n)
		is(t, fmt.Sprint("Length ", i), l, x.l)
		is(t, fmt.Sprint("error of Length ", i), e, x.e)
	}
}

// P4.1: detours by spots.
func TestDetour(t *testing.T) {
	for i, x := range []struct {
		s, e, r api.Vector
		d       api.Interval
		err     api.Errno
	}{
		{spotS, at(0, 10, 2), spotR, of(10, 13), api.OK}, {spotR, at(0, 10, 2), spotS, of(10, 13), api.OK},
		{spotS, spotS, spotR, of(0, 1), api.OK}, {spotS, spotR, spotR, of(0, 1), api.OK}, {spotS, at(-2, 0, 2), spotR, of(0, 1), api.OK},
		{spotS, spotS, spotS, of(0, 0), api.OK}, {spotS, at(-4, 3, 2), spotS, of(10, 10), api.OK}, {at(0, 0, 0), at(1, 1, 1), at(0, 0, 0), of(2, 4), api.OK},
		{at(-1000, -1000, 0), at(1000, 1000, 1000), at(-1000, -1000, 0), of(6000, 6000), api.OK},
		// Low of a and of b together are less than High of c.
		{at(0, 0, 0), at(1, 1, 0), at(3, 3, 0), of(0, 1), api.OK}, {at(0, 0, 0), at(1, 1, 0), at(2, 2, 0), of(0, 2), api.OK},
		{far, far, far, of(0, 0), api.ErrRange}, {at(-1001, 0, 0), spotS, spotR, of(0, 0), api.ErrRange}, {spotS, at(0, 1001, 0), spotR, of(0, 0), api.ErrRange},
		{spotS, at(0, 0, -1), spotR, of(0, 0), api.ErrRange}, {spotS, spotR, at(0, -1001, 0), of(0, 0), api.ErrRange}, {spotS, spotR, far, of(0, 0), api.ErrRange},
	} {
		d, e := town.Detour(x.s, x.e, x.r)
		is(t, fmt.Sprint("Detour ", i), d, x.d)
		is(t, fmt.Sprint("error of Detour ", i), e, x.err)
	}
}

// P4.1: depths of a wall.
func TestDepth(t *testing.T) {
	for i, x := range []struct {
		w    town.Wall
		s, r api.Vector
		n    int
		e    api.Errno
	}{
		{screen(6), spotS, spotR, 2, api.OK}, {screen(60), spotS, spotR, 10, api.OK}, {screen(60), spotR, spotS, 10, api.OK},
		// The excess is rounded up, and a wall that cuts has a depth.
		{screen(6), at(-1, 0, 2), at(2, 0, 4), 4, api.OK}, {screen(4), spotS, at(4, 0, 4), 1, api.OK}, {screen(1), at(-1, 0, 0), at(1, 0, 1), 1, api.OK},
		{screen(60), at(-8, 10, 2), at(4, 10, 2), 1, api.OK}, {screen(60), at(-8, -10, 2), at(4, -10, 2), 1, api.OK},
		// The detour by A is the lesser one, and then the one by B: 10 and 10 to it, and 16 apart.
		{wall("w", point(0, -6), point(0, 90), 90), spotS, at(8, 0, 2), 4, api.OK}, {wall("w", point(0, -90), point(0, 6), 90), spotS, at(8, 0, 2), 4, api.OK},
		// The ends have the height of the lower spot: B is 6 and 10 away from both, which are 14 to 15 apart; then 10 and 80, which are 80 to 81 apart.
		{wall("w", point(0, -90), point(0, 0), 90), at(-6, 0, 0), at(6, 0, 8), 1, api.OK}, {wall("w", point(0, -90), point(0, 0), 90), at(-6, 0, 8), at(6, 0, 0), 1, api.OK},
		{wall("w", point(0, -90), point(0, 8), 90), at(-6, 0, 0), at(6, 0, 80), 9, api.OK},
		{screen(4), spotS, spotR, 0, api.OK}, {screen(6), spotS, spotQ, 0, api.OK}, {screen(6), spotS, spotS, 0, api.OK},
		{wall("w", point(0, -1000), point(0, 1000), 1000), at(-1, 0, 0), at(1, 0, 0), 1000, api.OK},
		{screen(6), far, spotR, 0, api.ErrRange}, {screen(6), spotS, far, 0, api.ErrRange}, {badWall(), far, far, 0, api.ErrConflict}, {town.Wall{}, spotS, spotR, 0, api.ErrName},
	} {
		n, e := town.Depth(x.w, x.s, x.r)
		is(t, fmt.Sprint("Depth ", i), n, x.n)
		is(t, fmt.Sprint("error of Depth ", i), e, x.e)
	}
}

// P4.1: depths follow from the excess and the detours.
func TestDepthsByParts(t *testing.T) {
	r := seeded()
	for i := range 3000 {
		reach := []int{5, 30, 1000}[i%3]
		l, s, to := someWalls(r, from(r, 0, 12), reach), someSpot(r, reach), someSpot(r, reach)
		all, sum, e := town.Depths(l, s, to)
		is(t, "error of Depths", e, api.OK)
		is(t, "as many as walls", len(all), len(l))
		total := 0
		for i, w := range l {
			want := 0
			if x, cuts := through(w, spot(s), spot(to)); cuts {
				low := min(s.Z, to.Z)
				a, _ := town.Detour(s, at(w.A.X, w.A.Y, low), to)
				b, _ := town.Detour(s, at(w.B.X, w.B.Y, low), to)
				want = max(1, min(ceil(sub(rat(w.Height), x[2])), a.Low, b.Low))
			}
			is(t, fmt.Sprint("depth of ", w, s, to), all[i], want)
			n, e := town.Depth(w, s, to)
			is(t, fmt.Sprint("Depth of ", w, s, to), n, want)
			is(t, "error of Depth", e, api.OK)
			total += want
		}
		is(t, "the sum", sum, total)
	}
}

// P4.1: depths of all walls, and their errors.
func TestDepths(t *testing.T) {
	row := []town.Wall{screen(6), wall("far", point(50, 0), point(50, 9), 9), wall("v", point(2, -30), point(2, 30), 6)}
	var high []town.Wall
	for _, w := range someWalls(seeded(), 32, 9) {
		w.A, w.B, w.Height = point(0, -1000), point(0, 1000), 1000
		high = append(high, w)
	}
	for i, x := range []struct {
		l    []town.Wall
		s, r api.Vector
		all  []int
		sum  int
		e    api.Errno
	}{
		{row, spotS, spotR, []int{2, 0, 2}, 4, api.OK}, {row, spotR, spotR, []int{0, 0, 0}, 0, api.OK}, {nil, spotS, spotR, nil, 0, api.OK},
		{high[:3], at(-1, 0, 0), at(1, 0, 0), []int{1000, 1000, 1000}, 3000, api.OK},
		{make([]town.Wall, 33), far, far, nil, 0, api.ErrMany}, {append(row, screen(7)), far, far, nil, 0, api.ErrTwice}, {[]town.Wall{badWall()}, far, far, nil, 0, api.ErrConflict},
		{row, far, spotR, nil, 0, api.ErrRange}, {row, spotS, far, nil, 0, api.ErrRange}, {nil, spotS, far, nil, 0, api.ErrRange},
	} {
		all, sum, e := town.Depths(x.l, x.s, x.r)
		are(t, fmt.Sprint("Depths ", i), all, x.all)
		is(t, fmt.Sprint("the sum ", i), sum, x.sum)
		is(t, fmt.Sprint("error of Depths ", i), e, x.e)
	}
	_, sum, e := town.Depths(high, at(-1, 0, 0), at(1, 0, 0))
	is(t, "the greatest sum", sum, 32000)
	is(t, "error of the greatest sum", e, api.OK)
}
