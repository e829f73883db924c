package source_test

import (
	"fmt"
	"math"
	"slices"
	"testing"

	"flyover/api"
	"flyover/source"
)

// P2.1: what a type may be, with each error, and the first one of several.
func TestCheckType(t *testing.T) {
	all := func(n, count int) []int { return slices.Repeat([]int{n}, count) }
	for i, x := range []struct {
		e      api.Errno
		change func(x *source.Type)
	}{
		{api.OK, func(x *source.Type) {}},
		{api.ErrName, func(x *source.Type) { x.Name = "" }},
		{api.ErrName, func(x *source.Type) { x.Name, x.Shares = "1", nil }},
		{api.ErrEmpty, func(x *source.Type) { x.Shares, x.Direct[0] = nil, -1 }},
		{api.ErrMany, func(x *source.Type) { x.Shares = all(-1, 9) }},
		{api.OK, func(x *source.Type) { x.Shares = all(125, 8) }},
		{api.OK, func(x *source.Type) { x.Shares = []int{1000} }},
		{api.OK, func(x *source.Type) { x.Shares = []int{0, 1000, 0} }},
		{api.ErrRange, func(x *source.Type) { x.Shares = []int{1001, -1} }},
		{api.ErrRange, func(x *source.Type) { x.Shares = []int{-1, 1} }},
		{api.ErrForm, func(x *source.Type) { x.Shares, x.Direct[0] = []int{600, 399}, -1 }},
		{api.ErrForm, func(x *source.Type) { x.Shares = []int{600, 401} }},
		{api.OK, func(x *source.Type) { x.Direct = [8]int{0, 2000} }},
		{api.ErrRange, func(x *source.Type) { x.Direct[0], x.Squares = -1, nil }},
		{api.ErrRange, func(x *source.Type) { x.Direct[7] = 2001 }},
		{api.OK, func(x *source.Type) { x.Side = 0 }},
		{api.OK, func(x *source.Type) { x.Side = 1000 }},
		{api.ErrRange, func(x *source.Type) { x.Side, x.Squares = -1, nil }},
		{api.ErrRange, func(x *source.Type) { x.Side, x.Squares = 1001, nil }},
		{api.ErrEmpty, func(x *source.Type) { x.Squares, x.Settings = nil, nil }},
		{api.ErrMany, func(x *source.Type) { x.Squares = all(-1, 9) }},
		{api.ErrRange, func(x *source.Type) { x.Squares = []int{1, 0, -1} }},
		{api.ErrRange, func(x *source.Type) { x.Squares[1] = source.MaxSquare + 1 }},
		{api.OK, func(x *source.Type) { x.Squares[1] = source.MaxSquare }},
		{api.OK, func(x *source.Type) { x.Squares[1] = 1 }},
		{api.ErrOrder, func(x *source.Type) { x.Squares, x.Settings = []int{1, 100}, nil }},
		{api.ErrOrder, func(x *source.Type) { x.Squares[1] = 0 }},
		{api.ErrOrder, func(x *source.Type) { x.Squares = []int{0, 100, 99} }},
		{api.ErrEmpty, func(x *source.Type) { x.Settings = nil }},
		{api.ErrMany, func(x *source.Type) { x.Settings = make([]source.Setting, 7) }},
		{api.ErrRange, func(x *source.Type) { x.Settings[0] = source.Setting{Power: 0} }},
		{api.ErrRange, func(x *source.Type) { x.Settings[1] = source.Setting{Power: 101} }},
		{api.OK, func(x *source.Type) { x.Settings[0].Power, x.Settings[1].Power = 1, 100 }},
		{api.ErrOrder, func(x *source.Type) { x.Settings[1] = source.Setting{Power: 10} }},
		{api.ErrOrder, func(x *source.Type) { x.Settings[1].Power = 9 }},
		{api.ErrShape, func(x *source.Type) { x.Settings[0].Energies = nil }},
		{api.ErrShape, func(x *source.Type) { x.Settings[1].Energies = []int{-1} }},
		{api.ErrShape, func(x *source.Type) { x.Settings[1].Energies = []int{-1, 0, 0} }},
		{api.ErrRange, func(x *source.Type) { x.Settings[0].Energies = []int{0, -1} }},
		{api.ErrRange, func(x *source.Type) { x.Settings[1].Energies = []int{0, source.MaxEmission + 1} }},
		{api.OK, func(x *source.Type) { x.Settings[1].Energies = all(source.MaxEmission, 2) }},
		{api.OK, func(x *source.Type) { x.Settings[0].Energies = all(0, 2) }},
		{api.ErrRule, func(x *source.Type) { x.Settings[0].Energies[1] = 1001 }},
		{api.ErrRule, func(x *source.Type) { x.Settings[1].Energies[1] = 2001 }},
		{api.ErrRule, func(x *source.Type) { x.Settings[1].Energies[1] = 399 }},
		{api.ErrRule, func(x *source.Type) { x.Settings[1].Energies[0] = 999 }},
		{api.ErrRule, func(x *source.Type) {
			x.Squares, x.Settings = []int{0, 100, 200}, []source.Setting{{Power: 1, Energies: []int{5, 3, 4}}}
		}},
		{api.OK, func(x *source.Type) { x.Settings[1].Energies = []int{1000, 400} }},
		{api.OK, func(x *source.Type) { x.Settings[0].Energies[1] = 600 }},
		// The first setting with an error decides.
		{api.ErrRule, func(x *source.Type) { x.Settings[0].Energies[1], x.Settings[1].Power = 1001, 0 }},
		{api.ErrOrder, func(x *source.Type) { x.Settings[1].Power, x.Settings[1].Energies[0] = 10, -1 }},
	} {
		is(t, fmt.Sprint("CheckType ", i), source.CheckType(changed(x.change)), x.e)
	}
}

// P2.1: six settings and eight squares are permitted.
func TestCheckTypeLargest(t *testing.T) {
	x := jet()
	x.Squares = []int{0, 1, 2, 3, 4, 5, 6, 7}
	x.Settings = nil
	for i := range 6 {
		x.Settings = append(x.Settings, source.Setting{Power: i + 1, Energies: slices.Repeat([]int{i}, 8)})
	}
	is(t, "the largest type", source.CheckType(x), api.OK)
	x.Settings = append(x.Settings, source.Setting{Power: 7, Energies: slices.Repeat([]int{7}, 8)})
	is(t, "seven settings", source.CheckType(x), api.ErrMany)
}

// P2.1: emissions by power and squared distance.
func TestEmission(t *testing.T) {
	odd := changed(func(x *source.Type) { x.Settings[1].Energies = []int{1001, 401} })
	three := changed(func(x *source.Type) {
		x.Settings = append(x.Settings, source.Setting{Power: 23, Energies: []int{3000, 3000}})
	})
	for i, x := range []struct {
		t             source.Type
		power, square int
		n             int
		e             api.Errno
	}{
		{jet(), 15, 0, 1500, api.OK}, {jet(), 15, 99, 1500, api.OK}, {jet(), 15, 100, 500, api.OK},
		{jet(), 5, 0, 1000, api.OK}, {jet(), 5, 100, 400, api.OK}, {jet(), 1, 101, 400, api.OK},
		{jet(), 30, 0, 2000, api.OK}, {jet(), 100, source.MaxSquare, 600, api.OK},
		{jet(), 10, 0, 1000, api.OK}, {jet(), 20, 0, 2000, api.OK}, {jet(), 19, 100, 580, api.OK},
		{odd, 19, 0, 1000, api.OK}, {odd, 11, 100, 400, api.OK}, {odd, 20, 0, 1001, api.OK},
		{three, 21, 0, 2333, api.OK}, {three, 22, 0, 2666, api.OK}, {three, 22, 100, 2200, api.OK},
		{three, 20, 100, 600, api.OK}, {three, 15, 0, 1500, api.OK}, {three, 24, 0, 3000, api.OK},
		{jet(), 0, 0, 0, api.ErrRange}, {jet(), 101, 0, 0, api.ErrRange},
		{jet(), 1, -1, 0, api.ErrRange}, {jet(), 1, source.MaxSquare + 1, 0, api.ErrRange},
		{badType(), 0, -1, 0, api.ErrRule},
	} {
		n, e := source.Emission(x.t, x.power, x.square)
		is(t, fmt.Sprint("Emission ", i), n, x.n)
		is(t, fmt.Sprint("error of Emission ", i), e, x.e)
	}
}

// sectorOf turns a direction back by quarters until it is in the first one.
func sectorOf(u, v int) int {
	if u == 0 && v == 0 {
		return 0
	}
	n := 0
	for u <= 0 || v < 0 {
		u, v = v, -u
		n += 2
	}
	if v >= u {
		n++
	}
	return n
}

// P2.1: sectors, also at their edges.
func TestSector(t *testing.T) {
	for i, x := range []api.Point{{X: 3, Y: 1}, {X: 2, Y: 2}, {Y: 5}, {X: -2, Y: 2}, {X: -3}, {X: -1, Y: -1}, {Y: -4}, {X: 2, Y: -2}} {
		n, e := source.Sector(api.Point{X: 1}, x)
		is(t, fmt.Sprint("Sector of ", x), n, i)
		is(t, "error", e, api.OK)
	}
	for u := -4; u <= 4; u++ {
		for v := -4; v <= 4; v++ {
			n, _ := source.Sector(api.Point{X: 2}, api.Point{X: u, Y: v})
			is(t, fmt.Sprint("Sector of ", u, v), n, sectorOf(u, v))
			n, _ = source.Sector(api.Point{X: 3, Y: -4}, api.Point{X: u, Y: v})
			is(t, fmt.Sprint("Sector from 3, -4 of ", u, v), n, sectorOf(3*u-4*v, 3*v+4*u))
		}
	}
	const far = 200000
	for i, x := range []struct {
		h, x api.Point
		n    int
		e    api.Errno
	}{
		{api.Point{}, api.Point{X: 1}, 0, api.OK}, {api.Point{X: 1}, api.Point{}, 0, api.OK},
		{api.Point{X: far, Y: far}, api.Point{X: -far, Y: far}, 2, api.OK},
		{api.Point{X: -far, Y: far}, api.Point{X: far, Y: -far + 1}, 4, api.OK},
		{api.Point{X: -far, Y: far}, api.Point{X: far - 1, Y: -far}, 3, api.OK},
		{api.Point{X: far + 1}, api.Point{}, 0, api.ErrRange}, {api.Point{X: -far - 1}, api.Point{}, 0, api.ErrRange},
		{api.Point{Y: far + 1}, api.Point{}, 0, api.ErrRange}, {api.Point{Y: -far - 1}, api.Point{}, 0, api.ErrRange},
		{api.Point{}, api.Point{X: far + 1}, 0, api.ErrRange}, {api.Point{}, api.Point{X: -far - 1}, 0, api.ErrRange},
		{api.Point{}, api.Point{Y: far + 1}, 0, api.ErrRange}, {api.Point{}, api.Point{Y: -far - 1}, 0, api.ErrRange},
		{api.Point{X: math.MinInt, Y: 1}, api.Point{X: 1}, 0, api.ErrRange},
	} {
		n, e := source.Sector(x.h, x.x)
		is(t, fmt.Sprint("Sector ", i), n, x.n)
		is(t, fmt.Sprint("error of Sector ", i), e, x.e)
	}
}

// P2.1: what is heard, with both factors, and with its errors.
func TestHeard(t *testing.T) {
	state := func(x, power int) source.State {
		return source.State{At: at(x, 0, 0), Heading: api.Point{X: 8}, Power: power}
	}
	bent := changed(func(x *source.Type) { x.Direct, x.Side = [8]int{999, 1999, 1, 0, 2000}, 999 })
	hum := bent
	hum.Settings = []source.Setting{{Power: 10, Energies: []int{1, 1}}}
	far := changed(func(x *source.Type) {
		x.Squares[1] = source.MaxSquare - 1
		x.Settings[1].Energies[0], x.Direct[1], x.Side = source.MaxEmission, 2000, 1000
	})
	const high = source.MaxHeight
	for i, x := range []struct {
		t source.Type
		s source.State
		r api.Vector
		n int
	}{
		{jet(), state(0, 10), at(4, 2, 0), 500}, {jet(), state(2, 12), at(4, 2, 0), 600},
		{jet(), state(4, 15), at(4, 2, 0), 750}, {jet(), state(6, 17), at(4, 2, 0), 850},
		{jet(), state(8, 20), at(4, 0, 0), 500}, {jet(), state(0, 10), at(10, 0, 0), 200},
		// Straight above and at the place itself, Side does not apply; nor where four times the square is the same.
		{jet(), state(0, 10), at(0, 0, 5), 1000}, {jet(), state(0, 10), at(0, 0, 0), 1000},
		{jet(), state(0, 10), at(4, 0, 2), 1000}, {jet(), state(0, 10), at(4, 1, 2), 500},
		{jet(), state(0, 10), at(5, 0, 2), 500}, {jet(), state(0, 10), at(3, 0, 2), 1000},
		// The height is a part of the distance.
		{jet(), state(0, 10), at(0, 0, 10), 400}, {jet(), state(0, 10), at(0, 0, 9), 1000},
		// It is rounded down once, by both factors: 1.997001, where 1 would be left of the first one, and 0 of that.
		{hum, state(0, 10), at(1, 1, 0), 1},
		{bent, state(0, 15), at(1, 1, 0), 2995}, {bent, state(0, 10), at(1, 0, 0), 998},
		{bent, state(0, 10), at(1, 0, 1), 999}, {bent, state(0, 11), at(0, 3, 0), 1}, {bent, state(0, 12), at(0, 3, 1), 1},
		{bent, state(0, 10), at(-1, 1, 0), 0}, {bent, state(0, 20), at(-1, 0, 1), 4000},
		{far, source.State{At: at(-100000, -100000, 0), Heading: api.Point{X: 200000}, Power: 100}, at(100000, 100000, high), 200000000},
	} {
		n, e := source.Heard(x.t, x.s, x.r)
		is(t, fmt.Sprint("Heard ", i), n, x.n)
		is(t, fmt.Sprint("error of Heard ", i), e, api.OK)
	}
	with := func(f func(*source.State)) source.State {
		s := state(0, 1)
		f(&s)
		return s
	}
	for i, x := range []struct {
		t source.Type
		s source.State
		r api.Vector
		e api.Errno
	}{
		{badType(), state(0, 0), at(0, 0, -1), api.ErrRule},
		{jet(), state(100001, 1), at(0, 0, 0), api.ErrRange}, {jet(), state(-100001, 1), at(0, 0, 0), api.ErrRange},
		{jet(), with(func(s *source.State) { s.At.Y = 100001 }), at(0, 0, 0), api.ErrRange},
		{jet(), with(func(s *source.State) { s.At.Z = -1 }), at(0, 0, 0), api.ErrRange},
		{jet(), with(func(s *source.State) { s.At.Z = high + 1 }), at(0, 0, 0), api.ErrRange},
		{jet(), with(func(s *source.State) { s.Heading.X = 200001 }), at(0, 0, 0), api.ErrRange},
		{jet(), with(func(s *source.State) { s.Heading.Y = -200001 }), at(0, 0, 0), api.ErrRange},
		{jet(), state(0, 0), at(0, 0, 0), api.ErrRange}, {jet(), state(0, 101), at(0, 0, 0), api.ErrRange},
		{jet(), state(0, 1), at(-100001, 0, 0), api.ErrRange}, {jet(), state(0, 1), at(0, 100001, 0), api.ErrRange},
		{jet(), state(0, 1), at(0, 0, -1), api.ErrRange}, {jet(), state(0, 1), at(0, 0, high+1), api.ErrRange},
	} {
		n, e := source.Heard(x.t, x.s, x.r)
		is(t, fmt.Sprint("bad Heard ", i), e, x.e)
		is(t, "number beside the error", n, 0)
	}
}

// P2.1: what is heard follows from the emission, the sector and both factors.
func TestHeardByParts(t *testing.T) {
	r := seeded()
	for range 2000 {
		x := someType(r, "x")
		p, q := somePlace(r), somePlace(r)
		s := source.State{At: p, Heading: api.Point{X: from(r, -9, 9), Y: from(r, -9, 9)}, Power: from(r, 1, 100)}
		a, b, c := q.X-p.X, q.Y-p.Y, q.Z-p.Z
		emission, _ := source.Emission(x, s.Power, a*a+b*b+c*c)
		sector, _ := source.Sector(s.Heading, api.Point{X: a, Y: b})
		want := emission * x.Direct[sector] / 1000
		if 4*c*c < a*a+b*b {
			want = emission * x.Direct[sector] * x.Side / 1000000
		}
		n, e := source.Heard(x, s, q)
		is(t, fmt.Sprint("Heard of ", x, s, q), n, want)
		is(t, "error", e, api.OK)
	}
}

// P2.1: energies by bands.
func TestBanded(t *testing.T) {
	for i, x := range []struct {
		t source.Type
		n int
		l []int
		e api.Errno
	}{
		{jet(), 101, []int{61, 40}, api.OK}, {jet(), 0, []int{0, 0}, api.OK}, {jet(), 1, []int{1, 0}, api.OK},
		{jet(), 5, []int{3, 2}, api.OK}, {jet(), 4, []int{3, 1}, api.OK},
		{jet(), api.MaxEnergy, []int{6000000000000, 4000000000000}, api.OK},
		{changed(func(x *source.Type) { x.Shares = []int{0, 333, 333, 334} }), 2, []int{2, 0, 0, 0}, api.OK},
		{changed(func(x *source.Type) { x.Shares = []int{0, 333, 333, 334} }), 100, []int{1, 33, 33, 33}, api.OK},
		{changed(func(x *source.Type) { x.Shares = []int{1000} }), 7, []int{7}, api.OK},
		{jet(), -1, nil, api.ErrRange}, {jet(), api.MaxEnergy + 1, nil, api.ErrRange}, {badType(), -1, nil, api.ErrRule},
	} {
		l, e := source.Banded(x.t, x.n)
		are(t, fmt.Sprint("Banded ", i), l, x.l)
		is(t, fmt.Sprint("error of Banded ", i), e, x.e)
	}
}
