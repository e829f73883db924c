package source_test

import (
	"fmt"
	"testing"

	"flyover/api"
	"flyover/source"
)

// P2.5, P3: an exposure is the sum of those in two spans, wherever the ticks are cut.
func TestExposuresAdd(t *testing.T) {
	r := seeded()
	for range 100 {
		x, l, receiver := someType(r, "x"), someTrack(r), somePlace(r)
		whole, e := source.Exposure(x, l, always(), receiver)
		is(t, "error", e, api.OK)
		for range 20 {
			cut := from(r, 0, 400)
			a, _ := source.Exposure(x, l, api.Span{To: cut}, receiver)
			b, _ := source.Exposure(x, l, api.Span{From: cut, To: api.MaxTick}, receiver)
			is(t, fmt.Sprint("the sum of both sides of ", cut), a+b, whole)
		}
	}
}

// P2.5, P3: an exposure lies in its enclosure.
func TestEnclosuresHold(t *testing.T) {
	r := seeded()
	for range 1000 {
		x, l, receiver := someType(r, "x"), someTrack(r), somePlace(r)
		n, e := source.Exposure(x, l, always(), receiver)
		is(t, "error of Exposure", e, api.OK)
		around, e := source.Enclosed(x, l, receiver)
		is(t, "error of Enclosed", e, api.OK)
		is(t, fmt.Sprint(n, " in ", around), around.Low <= n && n <= around.High, true)
	}
}

// P2.5: a greater power, or a receiver nearer by a square of the table, has no lesser emission.
func TestEmissionsAscend(t *testing.T) {
	r := seeded()
	for range 200 {
		x := someType(r, "x")
		for i, square := range x.Squares {
			before := 0
			for power := range 100 {
				n, e := source.Emission(x, power+1, square)
				is(t, "error", e, api.OK)
				is(t, fmt.Sprint("a lesser emission of ", x, power+1, square), n < before, false)
				before = n
				if i > 0 {
					near, _ := source.Emission(x, power+1, square-1)
					is(t, fmt.Sprint("a lesser emission nearer than ", square), near < n, false)
				}
			}
		}
	}
}

// P2.5: a direction and a heading that are turned together have the same sector, and a direction that is turned by a quarter is two sectors further.
func TestSectorsTurn(t *testing.T) {
	turned := func(x api.Point) api.Point { return api.Point{X: -x.Y, Y: x.X} }
	r := seeded()
	for range 2000 {
		h := api.Point{X: from(r, -9, 9), Y: from(r, -9, 9)}
		x := api.Point{X: from(r, -9, 9), Y: from(r, -9, 9)}
		n, e := source.Sector(h, x)
		is(t, "error", e, api.OK)
		both, _ := source.Sector(turned(h), turned(x))
		is(t, fmt.Sprint("the sector of ", h, x, " turned together"), both, n)
		if h == (api.Point{}) || x == (api.Point{}) {
			continue
		}
		further, _ := source.Sector(h, turned(x))
		is(t, fmt.Sprint("the sector of ", h, x, " turned by a quarter"), further, (n+2)%8)
	}
}

// P2.5: what is repaired is repaired to itself.
func TestRepairedStays(t *testing.T) {
	r := seeded()
	kept := 0
	for range 1000 {
		speed := from(r, 1, 30)
		l, e := source.Repaired(someTrack(r), speed)
		if e == api.ErrShort {
			continue
		}
		kept++
		is(t, "error", e, api.OK)
		is(t, "CheckTrack", source.CheckTrack(l), api.OK)
		again, e := source.Repaired(l, speed)
		are(t, "Repaired again", again, l)
		is(t, "error again", e, api.OK)
	}
	is(t, "some are repaired", kept > 100, true)
}

// P2.5: the bands of an energy add up to it.
func TestBandsAdd(t *testing.T) {
	r := seeded()
	for range 1000 {
		x, n := someType(r, "x"), from(r, 0, api.MaxEnergy)
		if r.Intn(2) == 0 {
			n = r.Intn(100)
		}
		l, e := source.Banded(x, n)
		is(t, "error", e, api.OK)
		is(t, "bands", len(l), len(x.Shares))
		sum := 0
		for _, part := range l {
			sum += part
		}
		is(t, fmt.Sprint("the sum of ", l), sum, n)
	}
}

// P2.5, P3: a total does not depend on the order of flights, and a flight more makes it no less.
func TestTotalsOfFlights(t *testing.T) {
	r := seeded()
	for range 100 {
		var types []source.Type
		for i := range from(r, 1, 8) {
			types = append(types, someType(r, fmt.Sprint("t", i)))
		}
		var l []source.Flight
		before := 0
		receiver := somePlace(r)
		for i := range from(r, 1, 16) {
			l = append(l, source.Flight{Name: fmt.Sprint("f", i), Type: types[r.Intn(len(types))].Name, Track: someTrack(r)})
			n, e := source.Total(types, l, receiver)
			is(t, "error", e, api.OK)
			is(t, "a flight more makes it less", n < before, false)
			before = n
		}
		parts, _ := source.Parts(types, l, receiver)
		sum := 0
		for _, n := range parts {
			sum += n
		}
		is(t, "the sum of parts", sum, before)
		r.Shuffle(len(l), func(i, j int) { l[i], l[j] = l[j], l[i] })
		n, e := source.Total(types, l, receiver)
		is(t, "the total in another order", n, before)
		is(t, "error", e, api.OK)
	}
}

// P2.5: types are parsed as they were printed.
func TestTypesComeBack(t *testing.T) {
	r := seeded()
	for range 500 {
		x := someType(r, "x_9")
		s, e := source.Print(x)
		is(t, "error of Print", e, api.OK)
		back, i, e := source.Parse(s)
		areTypes(t, "Parse", back, x)
		is(t, "index", i, 0)
		is(t, "error of Parse", e, api.OK)
	}
}
