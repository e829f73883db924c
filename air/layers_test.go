package air_test

import (
	"fmt"
	"math"
	"testing"

	"flyover/air"
	"flyover/api"
)

// P3.1: the errors of airs, in their order.
func TestCheckAir(t *testing.T) {
	eight := list(0, 0, 0, 1000, 1000, 1000, 1, 2, 3, 3, 4, 4, 5, 5, 6, 6)
	for i, x := range []struct {
		a []air.Layer
		e api.Errno
	}{
		{two(), api.OK}, {nil, api.ErrEmpty}, {[]air.Layer{}, api.ErrEmpty},
		{make([]air.Layer, 9), api.ErrMany}, {make([]air.Layer, 8), api.ErrRange}, {stack(1, 2, 3, 4, 5, 6, 7, 8), api.OK},
		{changed(func(a []air.Layer) { a[0].Thickness, a[1].Thickness = 1, 2000 }), api.OK},
		{changed(func(a []air.Layer) { a[0].Thickness, a[0].Pass = 0, nil }), api.ErrRange},
		{changed(func(a []air.Layer) { a[1].Thickness, a[1].Pass = 2001, nil }), api.ErrRange},
		{changed(func(a []air.Layer) { a[0].Speed, a[1].Speed = 1, 2000 }), api.OK},
		{changed(func(a []air.Layer) { a[0].Speed, a[0].Pass = 0, nil }), api.ErrRange},
		{changed(func(a []air.Layer) { a[1].Speed, a[1].Pass = 2001, nil }), api.ErrRange},
		{changed(func(a []air.Layer) { a[0].Wind, a[1].Wind = api.Point{X: -100, Y: 100}, api.Point{X: 100, Y: -100} }), api.OK},
		{changed(func(a []air.Layer) { a[0].Wind.X, a[0].Pass = -101, nil }), api.ErrRange},
		{changed(func(a []air.Layer) { a[0].Wind.X, a[0].Pass = 101, nil }), api.ErrRange},
		{changed(func(a []air.Layer) { a[1].Wind.Y, a[1].Pass = -101, nil }), api.ErrRange},
		{changed(func(a []air.Layer) { a[1].Wind.Y, a[1].Pass = 101, nil }), api.ErrRange},
		{changed(func(a []air.Layer) { a[0].Pass = nil }), api.ErrEmpty}, {changed(func(a []air.Layer) { a[1].Pass = nil }), api.ErrEmpty},
		{changed(func(a []air.Layer) { a[0].Pass = list(make([]int, 18)...) }), api.ErrMany},
		{changed(func(a []air.Layer) { a[1].Pass = list(make([]int, 18)...) }), api.ErrMany},
		{changed(func(a []air.Layer) { a[1].Pass = list(2, 1, 2, 1) }), api.ErrShape},
		{changed(func(a []air.Layer) { a[0].Pass = list(1, 1, 1, 1) }), api.ErrShape},
		{changed(func(a []air.Layer) { a[0].Pass, a[1].Pass = eight, eight }), api.OK},
		{changed(func(a []air.Layer) { a[0].Pass, a[1].Pass = eight, eight[:7] }), api.ErrShape},
		{changed(func(a []air.Layer) { a[1].Pass = list(-1, -2) }), api.ErrRange},
		{changed(func(a []air.Layer) { a[1].Pass = list(1001, 1001) }), api.ErrRange},
		{changed(func(a []air.Layer) { a[1].Pass = list(1001, 1000) }), api.ErrRange},
		{changed(func(a []air.Layer) { a[1].Pass = list(2, -1) }), api.ErrRange},
		{changed(func(a []air.Layer) { a[1].Pass = list(2, 1001) }), api.ErrRange},
		{badAir(), api.ErrOrder},
		// The first layer with an error decides, and of its bands the first one.
		{changed(func(a []air.Layer) { a[0].Pass, a[1].Speed = list(2, 1), 0 }), api.ErrOrder},
		{changed(func(a []air.Layer) { a[0].Pass, a[1].Pass = list(2, 1), nil }), api.ErrOrder},
		{changed(func(a []air.Layer) { a[0].Pass, a[1].Thickness = nil, 0 }), api.ErrEmpty},
		{one(of(0, 0), of(2, 1), of(-1, 0)), api.ErrOrder}, {one(of(0, 0), of(0, 1001), of(2, 1)), api.ErrRange},
	} {
		is(t, fmt.Sprint("CheckAir ", i), air.CheckAir(x.a), x.e)
	}
}

// P3.1: the errors of paths, in their order.
func TestCheckPath(t *testing.T) {
	const far, high = air.MaxFar, air.MaxHeight
	zero := at(0, 0, 0)
	for i, x := range []struct {
		p air.Path
		e api.Errno
	}{
		{path(zero, at(0, 0, 1)), api.OK}, {path(zero, at(0, 1, 0)), api.OK}, {path(zero, at(1, 0, 0)), api.OK},
		{path(at(-far, -far, 0), at(far, far, high)), api.OK}, {path(at(far, far, high), at(-far, -far, 0)), api.OK},
		{badPath(), api.ErrZero}, {air.Path{}, api.ErrZero},
		{path(at(far+1, 0, 0), zero), api.ErrRange}, {path(at(-far-1, 0, 0), zero), api.ErrRange},
		{path(at(0, far+1, 0), zero), api.ErrRange}, {path(at(0, -far-1, 0), zero), api.ErrRange},
		{path(at(0, 0, high+1), zero), api.ErrRange}, {path(at(0, 0, -1), zero), api.ErrRange},
		{path(zero, at(far+1, 0, 0)), api.ErrRange}, {path(zero, at(-far-1, 0, 0)), api.ErrRange},
		{path(zero, at(0, far+1, 0)), api.ErrRange}, {path(zero, at(0, -far-1, 0)), api.ErrRange},
		{path(zero, at(0, 0, high+1)), api.ErrRange}, {path(zero, at(0, 0, -1)), api.ErrRange},
		{path(at(0, 0, -1), at(0, 0, -1)), api.ErrRange}, {path(at(math.MinInt, 0, 0), at(math.MaxInt, 0, 0)), api.ErrRange},
	} {
		is(t, fmt.Sprint("CheckPath ", i), air.CheckPath(x.p), x.e)
	}
}

// P3.1: layers at heights.
func TestLayerAt(t *testing.T) {
	for i, x := range []struct {
		a         []air.Layer
		height, n int
		e         api.Errno
	}{
		{two(), 0, 0, api.OK}, {two(), 99, 0, api.OK}, {two(), 100, 1, api.OK}, {two(), 149, 1, api.OK}, {two(), 150, 1, api.OK},
		{two(), 5000, 1, api.OK}, {two(), 10000, 1, api.OK},
		{one(of(0, 0)), 0, 0, api.OK}, {one(of(0, 0)), 10000, 0, api.OK},
		{stack(2000, 2000, 2000, 2000, 2000, 2000, 2000, 2000), 9999, 4, api.OK},
		{stack(2000, 2000, 2000, 2000, 2000, 2000, 2000, 2000), 10000, 5, api.OK},
		{two(), -1, 0, api.ErrRange}, {two(), 10001, 0, api.ErrRange}, {two(), math.MinInt, 0, api.ErrRange},
		{badAir(), -1, 0, api.ErrOrder}, {nil, 0, 0, api.ErrEmpty},
	} {
		n, e := air.LayerAt(x.a, x.height)
		is(t, fmt.Sprint("LayerAt ", i), n, x.n)
		is(t, fmt.Sprint("error of LayerAt ", i), e, x.e)
	}
	r := seeded()
	for range 100 {
		a := someAir(r, 8, 10)
		for height := range 90 {
			n, e := air.LayerAt(a, height)
			is(t, fmt.Sprint("LayerAt of ", thicknesses(a), height), n, layerOf(a, height))
			is(t, "error", e, api.OK)
		}
	}
}

// P3.1: airs with a layer that is split.
func TestSplit(t *testing.T) {
	full := stack(10, 20, 30, 40, 50, 60, 70, 80)
	for i, x := range []struct {
		a      []air.Layer
		height int
		l      []int
		e      api.Errno
	}{
		{two(), 40, []int{40, 60, 50}, api.OK}, {two(), 1, []int{1, 99, 50}, api.OK}, {two(), 99, []int{99, 1, 50}, api.OK},
		{two(), 101, []int{100, 1, 1}, api.OK}, {two(), 149, []int{100, 49, 1}, api.OK}, {two(), 150, []int{100, 50, 1}, api.OK},
		{two(), 2100, []int{100, 2000, 1}, api.OK}, {two(), 2101, nil, api.ErrLarge}, {two(), 10000, nil, api.ErrLarge},
		{stack(2000, 2000, 2000, 2000, 2000), 10000, []int{2000, 2000, 2000, 2000, 2000, 1}, api.OK},
		{stack(2000, 2000, 2000, 2000, 2000, 2000), 10000, nil, api.ErrTwice},
		{stack(2000, 2000, 2000), 3999, []int{2000, 1999, 1, 2000}, api.OK}, {stack(5, 6, 7, 8, 9, 9, 9), 12, []int{5, 6, 1, 6, 8, 9, 9, 9}, api.OK},
		{two(), 100, nil, api.ErrTwice}, {stack(5, 6, 7), 5, nil, api.ErrTwice}, {stack(5, 6, 7), 11, nil, api.ErrTwice}, {stack(5, 6, 7), 18, []int{5, 6, 7, 1}, api.OK},
		{two(), 0, nil, api.ErrRange}, {two(), -1, nil, api.ErrRange}, {two(), 10001, nil, api.ErrRange},
		{badAir(), 0, nil, api.ErrOrder}, {nil, 0, nil, api.ErrEmpty},
		// ErrTwice comes before ErrMany, and this before ErrLarge.
		{full, 280, nil, api.ErrTwice}, {full, 1, nil, api.ErrMany}, {full, 9000, nil, api.ErrMany},
	} {
		a, e := air.Split(x.a, x.height)
		are(t, fmt.Sprint("Split ", i), thicknesses(a), x.l)
		is(t, fmt.Sprint("error of Split ", i), e, x.e)
	}
	a, _ := air.Split(two(), 120)
	areAirs(t, "Split at 120", a, []air.Layer{
		{Thickness: 100, Speed: 340, Pass: list(900, 950)},
		{Thickness: 20, Speed: 341, Wind: api.Point{X: 10}, Pass: list(800, 800)},
		{Thickness: 1, Speed: 341, Wind: api.Point{X: 10}, Pass: list(800, 800)},
	})
	a, _ = air.Split(two(), 60)
	areAirs(t, "Split at 60", a, []air.Layer{
		{Thickness: 60, Speed: 340, Pass: list(900, 950)},
		{Thickness: 40, Speed: 340, Pass: list(900, 950)},
		{Thickness: 50, Speed: 341, Wind: api.Point{X: 10}, Pass: list(800, 800)},
	})
}

// P3.1: airs with the opposite winds.
func TestReversed(t *testing.T) {
	a := changed(func(a []air.Layer) { a[0].Wind = api.Point{X: -100, Y: 7} })
	b, e := air.Reversed(a)
	areAirs(t, "Reversed", b, changed(func(a []air.Layer) { a[0].Wind, a[1].Wind = api.Point{X: 100, Y: -7}, api.Point{X: -10} }))
	is(t, "error", e, api.OK)
	again, e := air.Reversed(b)
	areAirs(t, "Reversed twice", again, a)
	is(t, "error", e, api.OK)
	b, e = air.Reversed(badAir())
	areAirs(t, "Reversed of a bad air", b, nil)
	is(t, "error", e, api.ErrOrder)
	_, e = air.Reversed(nil)
	is(t, "error of nothing", e, api.ErrEmpty)
}

// P3.1: layers at which rays turn.
func TestTurned(t *testing.T) {
	three := append(two(), air.Layer{Thickness: 1, Speed: 340, Wind: api.Point{X: 100, Y: 100}, Pass: list(0, 0)})
	ratio := func(num, den int) api.Ratio { return api.Ratio{Num: num, Den: den} }
	for i, x := range []struct {
		a    []air.Layer
		from int
		s    api.Ratio
		n    int
		e    api.Errno
	}{
		{two(), 0, ratio(1, 341), 1, api.OK}, {two(), 0, ratio(1, 340), 0, api.OK}, {two(), 1, ratio(1, 340), 1, api.OK},
		{two(), 0, ratio(1, 342), 0, api.ErrNone}, {two(), 0, ratio(3, 2), 0, api.OK}, {two(), 1, ratio(100000, 1), 1, api.OK},
		{two(), 0, ratio(99999, 100000), 0, api.OK}, {two(), 0, ratio(2, 681), 1, api.OK}, {two(), 0, ratio(2, 683), 0, api.ErrNone},
		// The wind does not count, and nor do the layers below.
		{three, 2, ratio(1, 341), 0, api.ErrNone}, {three, 2, ratio(1, 340), 2, api.OK}, {three, 1, ratio(1, 341), 1, api.OK},
		{two(), -1, ratio(0, 0), 0, api.ErrUnknown}, {two(), 2, ratio(0, 0), 0, api.ErrUnknown}, {two(), math.MaxInt, ratio(1, 1), 0, api.ErrUnknown},
		{two(), 0, ratio(0, 1), 0, api.ErrRange}, {two(), 0, ratio(-1, 1), 0, api.ErrRange}, {two(), 0, ratio(100001, 1), 0, api.ErrRange},
		{two(), 0, ratio(1, 0), 0, api.ErrRange}, {two(), 0, ratio(1, -1), 0, api.ErrRange}, {two(), 0, ratio(1, 100001), 0, api.ErrRange},
		{two(), 0, ratio(2, 680), 0, api.ErrForm}, {two(), 0, ratio(100000, 100000), 0, api.ErrForm}, {two(), 0, ratio(7, 7), 0, api.ErrForm},
		{badAir(), -1, ratio(0, 0), 0, api.ErrOrder}, {nil, 0, ratio(1, 1), 0, api.ErrEmpty},
	} {
		n, e := air.Turned(x.a, x.from, x.s)
		is(t, fmt.Sprint("Turned ", i), n, x.n)
		is(t, fmt.Sprint("error of Turned ", i), e, x.e)
	}
}
