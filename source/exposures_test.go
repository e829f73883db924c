package source_test

import (
	"fmt"
	"math"
	"testing"

	"flyover/api"
	"flyover/source"
)

// P2.3: exposures and maxima of spans.
func TestExposureAndMaximum(t *testing.T) {
	near := at(4, 2, 0)
	for i, x := range []struct {
		s           api.Span
		sum, most   int
		tick        int
		noneMaximum api.Errno
	}{
		{always(), 2700, 850, 8, api.OK}, {api.Span{From: 5, To: 9}, 2700, 850, 8, api.OK},
		{api.Span{From: 6, To: 8}, 1350, 750, 7, api.OK}, {api.Span{To: 6}, 500, 500, 5, api.OK},
		{api.Span{From: 8, To: 9}, 850, 850, 8, api.OK},
		{api.Span{To: 5}, 0, 0, 0, api.ErrNone}, {api.Span{From: 9, To: 99}, 0, 0, 0, api.ErrNone},
		{api.Span{From: 7, To: 7}, 0, 0, 0, api.ErrNone}, {api.Span{}, 0, 0, 0, api.ErrNone},
		{api.Span{From: api.MaxTick, To: api.MaxTick}, 0, 0, 0, api.ErrNone},
	} {
		n, e := source.Exposure(jet(), flight(), x.s, near)
		is(t, fmt.Sprint("Exposure ", i), n, x.sum)
		is(t, fmt.Sprint("error of Exposure ", i), e, api.OK)
		most, tick, e := source.Maximum(jet(), flight(), x.s, near)
		is(t, fmt.Sprint("Maximum ", i), most, x.most)
		is(t, fmt.Sprint("tick of Maximum ", i), tick, x.tick)
		is(t, fmt.Sprint("error of Maximum ", i), e, x.noneMaximum)
	}
}

// P2.3: of several ticks with the maximum it is the first one; silence has a maximum, too.
func TestFirstMaximum(t *testing.T) {
	quiet := changed(func(x *source.Type) { x.Direct = [8]int{} })
	most, tick, e := source.Maximum(quiet, flight(), always(), at(4, 2, 0))
	is(t, "Maximum of silence", most, 0)
	is(t, "tick", tick, 5)
	is(t, "error", e, api.OK)
	most, tick, e = source.Maximum(quiet, flight(), api.Span{From: 7, To: 8}, at(4, 2, 0))
	is(t, "Maximum of a part of silence", most, 0)
	is(t, "tick", tick, 7)
	is(t, "error", e, api.OK)
	// It is heard 400, 1000, 1000, 400.
	passing := []source.Fix{fix(3, -15, 0, 0, 10), fix(7, 25, 0, 0, 10)}
	even := changed(func(x *source.Type) { x.Direct, x.Side = [8]int{1000, 1000, 1000, 1000, 1000, 1000, 1000, 1000}, 1000 })
	most, tick, e = source.Maximum(even, passing, always(), at(0, 0, 0))
	is(t, "Maximum of passing", most, 1000)
	is(t, "tick", tick, 4)
	is(t, "error", e, api.OK)
}

// P2.3: an exposure over several segments is the sum of what is heard of each state.
func TestExposureByTicks(t *testing.T) {
	r := seeded()
	for range 200 {
		x, l, receiver := someType(r, "x"), someTrack(r), somePlace(r)
		s := api.Span{From: from(r, 0, 100)}
		s.To = s.From + from(r, 0, 200)
		sum, most, first := 0, -1, 0
		for tick := s.From; tick < s.To; tick++ {
			state, e := source.At(l, tick)
			if e == api.ErrNone {
				continue
			}
			n, _ := source.Heard(x, state, receiver)
			sum += n
			if n > most {
				most, first = n, tick
			}
		}
		n, e := source.Exposure(x, l, s, receiver)
		is(t, "Exposure", n, sum)
		is(t, "error", e, api.OK)
		n, tick, e := source.Maximum(x, l, s, receiver)
		if most < 0 {
			is(t, "error without a tick", e, api.ErrNone)
			continue
		}
		is(t, "Maximum", n, most)
		is(t, "tick of Maximum", tick, first)
		is(t, "error", e, api.OK)
	}
}

// P2.3: the errors of exposures and maxima, from left to right.
func TestExposureErrors(t *testing.T) {
	near, none := at(4, 2, 0), at(0, 0, -1)
	good, bad := always(), api.Span{From: -1}
	for i, x := range []struct {
		t source.Type
		l []source.Fix
		s api.Span
		r api.Vector
		e api.Errno
	}{
		{badType(), nil, bad, none, api.ErrRule}, {jet(), nil, bad, none, api.ErrShort},
		{jet(), flight(), bad, none, api.ErrSpan}, {jet(), flight(), api.Span{From: 7, To: 6}, near, api.ErrSpan},
		{jet(), flight(), api.Span{To: api.MaxTick + 1}, near, api.ErrSpan},
		{jet(), flight(), api.Span{From: math.MinInt, To: math.MaxInt}, near, api.ErrSpan},
		{jet(), flight(), api.Span{From: math.MaxInt, To: math.MinInt}, near, api.ErrSpan},
		{jet(), flight(), good, none, api.ErrRange}, {jet(), flight(), good, at(100001, 0, 0), api.ErrRange},
		{jet(), flight(), good, at(0, -100001, 0), api.ErrRange}, {jet(), flight(), good, at(0, 0, 20001), api.ErrRange},
		{jet(), flight(), api.Span{}, none, api.ErrRange},
	} {
		n, e := source.Exposure(x.t, x.l, x.s, x.r)
		is(t, fmt.Sprint("error of Exposure ", i), e, x.e)
		is(t, "number beside the error", n, 0)
		n, tick, e := source.Maximum(x.t, x.l, x.s, x.r)
		is(t, fmt.Sprint("error of Maximum ", i), e, x.e)
		is(t, "number beside the error", n, 0)
		is(t, "tick beside the error", tick, 0)
	}
	for i, x := range badTracks {
		_, e := source.Exposure(jet(), x.l, bad, none)
		is(t, fmt.Sprint("bad track of Exposure ", i), e, x.e)
		_, _, e = source.Maximum(jet(), x.l, bad, none)
		is(t, fmt.Sprint("bad track of Maximum ", i), e, x.e)
		_, e = source.Enclosed(jet(), x.l, none)
		is(t, fmt.Sprint("bad track of Enclosed ", i), e, x.e)
	}
}

// P2.3: enclosures by segments.
func TestEnclosed(t *testing.T) {
	near := at(4, 2, 0)
	faint := changed(func(x *source.Type) { x.Settings = []source.Setting{{Power: 10, Energies: []int{3, 3}}} })
	odd := changed(func(x *source.Type) { x.Direct, x.Side = [8]int{1001, 1999, 1500, 1500, 1500, 1500, 1500, 1002}, 999 })
	slight := changed(func(x *source.Type) {
		x.Settings, x.Direct = []source.Setting{{Power: 1, Energies: []int{1, 1}}}, [8]int{1001}
	})
	back := []source.Fix{fix(5, 8, 0, 0, 20), fix(9, 0, 0, 0, 10)}
	for i, x := range []struct {
		t    source.Type
		l    []source.Fix
		r    api.Vector
		want api.Interval
	}{
		{jet(), flight(), near, api.Interval{Low: 1000, High: 8000}},
		{jet(), back, near, api.Interval{Low: 1000, High: 8000}},
		{jet(), flight(), at(0, 20, 0), api.Interval{Low: 400, High: 2400}},
		// The receiver is 10 from the box beyond one of its sides: at the square 100, of all of it.
		{jet(), flight(), at(18, 0, 0), api.Interval{Low: 400, High: 2400}},
		{jet(), flight(), at(17, 0, 0), api.Interval{Low: 400, High: 8000}},
		{jet(), flight(), at(-10, 0, 0), api.Interval{Low: 400, High: 2400}},
		{jet(), flight(), at(-9, 0, 0), api.Interval{Low: 400, High: 8000}},
		{jet(), flight(), at(4, 0, 10), api.Interval{Low: 400, High: 2400}},
		{jet(), flight(), at(4, 0, 9), api.Interval{Low: 1000, High: 8000}},
		{jet(), flight(), at(4, -10, 0), api.Interval{Low: 400, High: 2400}},
		{jet(), append(flight(), fix(10, 8, 0, 10, 20)), near, api.Interval{Low: 1150, High: 10000}},
		// A tick is 1.001, rounded up once a segment.
		{slight, []source.Fix{fix(0, 0, 0, 0, 1), fix(1, 0, 0, 0, 1)}, near, api.Interval{Low: 0, High: 2}},
		{slight, []source.Fix{fix(0, 0, 0, 0, 1), fix(2, 0, 0, 0, 1)}, near, api.Interval{Low: 0, High: 3}},
		{slight, []source.Fix{fix(0, 0, 0, 0, 1), fix(1, 0, 0, 0, 1), fix(2, 0, 0, 0, 1)}, near, api.Interval{Low: 0, High: 4}},
		// A tick is 0.75, which is 0; four are 12, exactly.
		{faint, flight(), near, api.Interval{Low: 0, High: 12}},
		// A tick is 999.999, which is 999; four are 4 * 3998, exactly, and one of the energy 3 is 5.997.
		{odd, flight(), near, api.Interval{Low: 3996, High: 15992}},
		{changed(func(x *source.Type) {
			*x = odd
			x.Settings = []source.Setting{{Power: 1, Energies: []int{3, 3}}}
		}), []source.Fix{fix(0, 0, 0, 0, 1), fix(3, 0, 0, 0, 1), fix(4, 1, 1, 0, 1)}, near, api.Interval{Low: 8, High: 18 + 6}},
	} {
		got, e := source.Enclosed(x.t, x.l, x.r)
		is(t, fmt.Sprint("Enclosed ", i), got, x.want)
		is(t, fmt.Sprint("error of Enclosed ", i), e, api.OK)
	}
	for i, x := range []struct {
		t source.Type
		r api.Vector
		e api.Errno
	}{{badType(), near, api.ErrRule}, {jet(), at(0, 0, -1), api.ErrRange}, {jet(), at(100001, 0, 0), api.ErrRange}, {jet(), at(0, 100001, 0), api.ErrRange}} {
		got, e := source.Enclosed(x.t, flight(), x.r)
		is(t, fmt.Sprint("bad Enclosed ", i), e, x.e)
		is(t, "enclosure beside the error", got, api.Interval{})
	}
}

// squares returns the least and the greatest squared distance of a receiver from the places between a and b, one by one.
func squares(a, b, receiver api.Vector) (int, int) {
	least, most := math.MaxInt, 0
	for x := min(a.X, b.X); x <= max(a.X, b.X); x++ {
		for y := min(a.Y, b.Y); y <= max(a.Y, b.Y); y++ {
			for z := min(a.Z, b.Z); z <= max(a.Z, b.Z); z++ {
				u, v, w := x-receiver.X, y-receiver.Y, z-receiver.Z
				n := u*u + v*v + w*w
				least, most = min(least, n), max(most, n)
			}
		}
	}
	return least, most
}

// P2.3: the distances of enclosures are those of all places of the box.
func TestEnclosedByPlaces(t *testing.T) {
	r := seeded()
	near := func() api.Vector { return at(from(r, -3, 3), from(r, -3, 3), from(r, 0, 6)) }
	even := changed(func(x *source.Type) {
		x.Direct, x.Side = [8]int{1000, 1000, 1000, 1000, 1000, 1000, 1000, 1000}, 1000
	})
	for range 2000 {
		// The energies tell which one of eight squares in a row a squared distance reaches.
		first := from(r, 0, 110)
		even.Squares, even.Settings = []int{0}, []source.Setting{{Power: 1, Energies: []int{7}}}
		for i := range 7 {
			even.Squares = append(even.Squares, first+1+i)
			even.Settings[0].Energies = append(even.Settings[0].Energies, 6-i)
		}
		l := []source.Fix{{Tick: 3, At: near(), Power: 1}, {Tick: 4, At: near(), Power: 1}}
		receiver := near()
		least, most := squares(l[0].At, l[1].At, receiver)
		low, _ := source.Emission(even, 1, most)
		high, _ := source.Emission(even, 1, least)
		got, e := source.Enclosed(even, l, receiver)
		is(t, fmt.Sprint("Enclosed of ", l, receiver), got, api.Interval{Low: low, High: high})
		is(t, "error", e, api.OK)
	}
}

// P2.3: the enclosure of the loudest and longest track.
func TestEnclosedLoudest(t *testing.T) {
	loud := changed(func(x *source.Type) {
		x.Settings = []source.Setting{{Power: 1, Energies: []int{source.MaxEmission, source.MaxEmission}}}
		x.Direct, x.Side = [8]int{2000, 2000, 2000, 2000, 2000, 2000, 2000, 2000}, 1000
	})
	l := []source.Fix{fix(0, -100000, -100000, 0, 100), fix(1000, 100000, 100000, 20000, 1)}
	const want = 1000 * 2 * source.MaxEmission
	got, e := source.Enclosed(loud, l, at(100000, -100000, 0))
	is(t, "Enclosed", got, api.Interval{Low: want, High: want})
	is(t, "error", e, api.OK)
	n, e := source.Exposure(loud, l, always(), at(100000, -100000, 0))
	is(t, "Exposure", n, want)
	is(t, "error", e, api.OK)
}
