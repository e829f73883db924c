package air_test

import (
	"fmt"
	"math"
	"math/big"
	"slices"
	"testing"

	"flyover/air"
	"flyover/api"
)

// speed returns the speed of a layer along a direction, times its length, to 200 bits.
func speed(x air.Layer, along api.Point) *big.Float {
	number := func(n int) *big.Float { return new(big.Float).SetPrec(200).SetInt64(int64(n)) }
	length := number(along.X*along.X + along.Y*along.Y)
	length.Sqrt(length).Mul(length, number(x.Speed))
	return length.Add(length, number(x.Wind.X*along.X+x.Wind.Y*along.Y))
}

// P3.3: speeds of two layers along directions.
func TestCompared(t *testing.T) {
	even := changed(func(a []air.Layer) { a[1].Speed, a[1].Wind = 343, api.Point{X: -5} })
	fast := changed(func(a []air.Layer) {
		a[0].Speed, a[0].Wind = 1, api.Point{X: 100, Y: 100}
		a[1].Speed, a[1].Wind = 2000, api.Point{X: -100, Y: -100}
	})
	calm := changed(func(a []air.Layer) { a[1].Wind.X = 0 })
	for i, x := range []struct {
		a     []air.Layer
		i, j  int
		along api.Point
		n     int
		e     api.Errno
	}{
		{two(), 1, 0, api.Point{X: 1}, 1, api.OK}, {two(), 0, 1, api.Point{X: 1}, -1, api.OK}, {two(), 1, 0, api.Point{X: -1}, -1, api.OK},
		{two(), 1, 0, api.Point{Y: 7}, 1, api.OK}, {two(), 0, 0, api.Point{Y: 7}, 0, api.OK}, {two(), 1, 1, api.Point{X: 7}, 0, api.OK},
		{two(), 1, 0, api.Point{X: -3, Y: 30}, 1, api.OK}, {two(), 1, 0, api.Point{X: -4, Y: 30}, -1, api.OK},
		// The length 5 times 3 is 3 times the wind -5.
		{even, 1, 0, api.Point{X: 3, Y: 4}, 0, api.OK}, {even, 0, 1, api.Point{X: 6, Y: -8}, 0, api.OK},
		{even, 1, 0, api.Point{X: 3, Y: 5}, 1, api.OK}, {even, 1, 0, api.Point{X: 4, Y: 4}, -1, api.OK}, {even, 1, 0, api.Point{X: -3, Y: 4}, 1, api.OK},
		{calm, 1, 0, api.Point{X: -9, Y: 1}, 1, api.OK}, {calm, 0, 1, api.Point{X: 20000, Y: -20000}, -1, api.OK},
		{fast, 1, 0, api.Point{X: 20000, Y: 20000}, 1, api.OK}, {fast, 0, 1, api.Point{X: -20000, Y: -20000}, -1, api.OK},
		{two(), -1, 2, api.Point{}, 0, api.ErrUnknown}, {two(), 2, 0, api.Point{X: 20001}, 0, api.ErrUnknown},
		{two(), 0, -1, api.Point{}, 0, api.ErrUnknown}, {two(), 0, 2, api.Point{X: 20001}, 0, api.ErrUnknown},
		{two(), 0, 0, api.Point{}, 0, api.ErrZero}, {two(), 0, 0, api.Point{X: 20001}, 0, api.ErrRange}, {two(), 0, 0, api.Point{X: -20001}, 0, api.ErrRange},
		{two(), 0, 0, api.Point{Y: 20001}, 0, api.ErrRange}, {two(), 0, 0, api.Point{Y: -20001}, 0, api.ErrRange},
		{two(), 0, 0, api.Point{X: math.MinInt, Y: math.MaxInt}, 0, api.ErrRange},
		{badAir(), -1, 0, api.Point{}, 0, api.ErrOrder}, {nil, 0, 0, api.Point{}, 0, api.ErrEmpty},
	} {
		n, e := air.Compared(x.a, x.i, x.j, x.along)
		is(t, fmt.Sprint("Compared ", i), n, x.n)
		is(t, fmt.Sprint("error of Compared ", i), e, x.e)
	}
}

// P3.3: speeds, ranks and bends follow from the roots.
func TestWindsByRoots(t *testing.T) {
	r := seeded()
	for range 1000 {
		a := someAir(r, 8, 100)
		along := api.Point{X: from(r, -50, 50), Y: from(r, 1, 50)}
		for i, x := range a {
			for j, y := range a {
				n, e := air.Compared(a, i, j, along)
				is(t, "error of Compared", e, api.OK)
				// Roots that differ do so before the 150th bit.
				far := new(big.Float).Sub(speed(x, along), speed(y, along))
				want := far.Sign()
				if want != 0 && far.MantExp(nil) < -100 {
					want = 0
				}
				is(t, fmt.Sprint("Compared of ", a, i, j, along), n, want)
			}
		}
		ranked, e := air.Ranked(a, along)
		is(t, "error of Ranked", e, api.OK)
		is(t, "as many as layers", len(ranked), len(a))
		for i, n := range ranked[1:] {
			order, _ := air.Compared(a, ranked[i], n, along)
			is(t, fmt.Sprint("the order of ", ranked), order > 0 || order == 0 && ranked[i] < n, true)
		}
		slices.Sort(ranked)
		for i, n := range ranked {
			is(t, "each layer is ranked once", n, i)
		}
		p := somePath(r, 500, 500)
		n, e := air.Bent(a, p)
		is(t, "error of Bent", e, api.OK)
		want := 0
		if flat := (api.Point{X: p.To.X - p.From.X, Y: p.To.Y - p.From.Y}); flat != (api.Point{}) {
			low, high := layerOf(a, min(p.From.Z, p.To.Z)), layerOf(a, max(p.From.Z, p.To.Z))
			want, _ = air.Compared(a, high, low, flat)
		}
		is(t, fmt.Sprint("Bent of ", a, p), n, want)
		shadow, e := air.Shadowed(a, p)
		is(t, "error of Shadowed", e, api.OK)
		reach := 20 * (p.From.Z + p.To.Z)
		is(t, fmt.Sprint("Shadowed of ", a, p), shadow, want < 0 && squared(p, 0) > reach*reach)
	}
}

// P3.3: ranks of layers along directions.
func TestRanked(t *testing.T) {
	same := append(stack(1, 2, 3, 4), stack(1, 2, 3, 4)...)
	even := changed(func(a []air.Layer) { a[1].Speed, a[1].Wind = 343, api.Point{X: -5} })
	for i, x := range []struct {
		a     []air.Layer
		along api.Point
		l     []int
		e     api.Errno
	}{
		{two(), api.Point{X: 1}, []int{1, 0}, api.OK}, {two(), api.Point{X: -1}, []int{0, 1}, api.OK}, {even, api.Point{X: 3, Y: 4}, []int{0, 1}, api.OK},
		// Each layer is twice in the air: the first one of both comes first.
		{same, api.Point{X: 20000}, []int{3, 7, 2, 6, 1, 5, 0, 4}, api.OK}, {same, api.Point{X: -2, Y: 2}, []int{0, 4, 1, 5, 2, 6, 3, 7}, api.OK},
		{one(of(0, 0)), api.Point{Y: -20000}, []int{0}, api.OK},
		{two(), api.Point{}, nil, api.ErrZero}, {two(), api.Point{X: 20001}, nil, api.ErrRange}, {two(), api.Point{Y: -20001}, nil, api.ErrRange},
		{badAir(), api.Point{}, nil, api.ErrOrder}, {nil, api.Point{X: 1}, nil, api.ErrEmpty},
	} {
		l, e := air.Ranked(x.a, x.along)
		are(t, fmt.Sprint("Ranked ", i), l, x.l)
		is(t, fmt.Sprint("error of Ranked ", i), e, x.e)
	}
}

// P3.3: paths that are bent, and paths in the shadow.
func TestBentAndShadowed(t *testing.T) {
	even := changed(func(a []air.Layer) { a[1].Speed, a[1].Wind = 343, api.Point{X: -5} })
	slow := changed(func(a []air.Layer) { a[1].Speed, a[1].Wind = 339, api.Point{} })
	for i, x := range []struct {
		a      []air.Layer
		p      air.Path
		n      int
		shadow bool
		e      api.Errno
	}{
		{two(), path(at(0, 0, 150), at(5000, 0, 10)), 1, false, api.OK}, {two(), path(at(0, 0, 10), at(5000, 0, 150)), 1, false, api.OK},
		{two(), path(at(5000, 0, 150), at(0, 0, 10)), -1, true, api.OK}, {two(), path(at(5000, 0, 10), at(0, 0, 150)), -1, true, api.OK},
		{two(), path(at(3200, 0, 150), at(0, 0, 10)), -1, false, api.OK}, {two(), path(at(3201, 0, 150), at(0, 0, 10)), -1, true, api.OK},
		// The length of the direction counts, not that of the path: 3200 by 140.
		{two(), path(at(3200, 0, 159), at(0, 0, 1)), -1, false, api.OK}, {slow, path(at(0, 0, 100), at(1200, 1600, 0)), -1, false, api.OK},
		{slow, path(at(0, 0, 100), at(1200, 1601, 0)), -1, true, api.OK}, {slow, path(at(-1200, -1601, 0), at(0, 0, 100)), -1, true, api.OK},
		// In one layer, upright, and as fast above as below.
		{two(), path(at(5000, 0, 99), at(0, 0, 10)), 0, false, api.OK}, {two(), path(at(5000, 0, 100), at(0, 0, 9000)), 0, false, api.OK},
		{two(), path(at(5000, 0, 0), at(0, 0, 0)), 0, false, api.OK}, {slow, path(at(0, 0, 150), at(0, 0, 10)), 0, false, api.OK},
		{two(), path(at(0, 0, 150), at(0, 0, 10)), 0, false, api.OK}, {even, path(at(0, 0, 150), at(6000, 8000, 10)), 0, false, api.OK},
		{two(), path(at(5000, 0, 100), at(0, 0, 99)), -1, true, api.OK}, {two(), path(at(-10000, -10000, 100), at(10000, 10000, 0)), 1, false, api.OK},
		{two(), badPath(), 0, false, api.ErrZero}, {two(), path(at(0, 0, 0), at(0, 10001, 0)), 0, false, api.ErrRange},
		{badAir(), badPath(), 0, false, api.ErrOrder}, {nil, step(), 0, false, api.ErrEmpty},
	} {
		n, e := air.Bent(x.a, x.p)
		is(t, fmt.Sprint("Bent ", i), n, x.n)
		is(t, fmt.Sprint("error of Bent ", i), e, x.e)
		shadow, e := air.Shadowed(x.a, x.p)
		is(t, fmt.Sprint("Shadowed ", i), shadow, x.shadow)
		is(t, fmt.Sprint("error of Shadowed ", i), e, x.e)
	}
}
