package source_test

import (
	"fmt"
	"testing"

	"flyover/api"
	"flyover/source"
)

// owl returns J with another name, and without a sound.
func owl() source.Type {
	return changed(func(x *source.Type) { x.Name, x.Direct = "owl", [8]int{} })
}

func named(name, kind string) source.Flight {
	return source.Flight{Name: name, Type: kind, Track: flight()}
}

// types returns n types, as good as J.
func types(n int) []source.Type {
	l := make([]source.Type, n)
	for i := range l {
		l[i] = changed(func(x *source.Type) { x.Name = fmt.Sprint("t", i) })
	}
	return l
}

// flights returns n flights of the type t0.
func flights(n int) []source.Flight {
	l := make([]source.Flight, n)
	for i := range l {
		l[i] = named(fmt.Sprint("f", i), "t0")
	}
	return l
}

// badFlights has types and flights with their errors.
var badFlights = []struct {
	types []source.Type
	l     []source.Flight
	e     api.Errno
}{
	{make([]source.Type, 9), make([]source.Flight, 17), api.ErrMany},
	{types(9), nil, api.ErrMany},
	{[]source.Type{{}}, make([]source.Flight, 17), api.ErrName},
	{[]source.Type{jet(), badType()}, nil, api.ErrRule},
	{[]source.Type{jet(), owl(), jet(), {}}, nil, api.ErrTwice},
	{[]source.Type{jet(), {}, jet()}, nil, api.ErrName},
	{types(8), make([]source.Flight, 17), api.ErrMany},
	{types(8), flights(17), api.ErrMany},
	{types(1), []source.Flight{named("f", "t0"), {Type: "none"}}, api.ErrName},
	{types(1), []source.Flight{named("f", "t0"), {Name: "f", Type: "none"}}, api.ErrTwice},
	{types(1), []source.Flight{named("f", "t0"), {Name: "g", Type: "none"}, {}}, api.ErrUnknown},
	{types(1), []source.Flight{{Name: "f", Type: ""}}, api.ErrUnknown},
	{nil, []source.Flight{named("f", "t0")}, api.ErrUnknown},
	{types(1), []source.Flight{{Name: "f", Type: "t0"}, {}}, api.ErrShort},
	{types(1), []source.Flight{{Name: "f", Type: "t0", Track: []source.Fix{fix(1, 0, 0, 0, 1), fix(1002, 0, 0, 0, 1)}}}, api.ErrSpan},
}

// P2.3: what types and flights may be.
func TestCheckFlights(t *testing.T) {
	is(t, "nothing", source.CheckFlights(nil, nil), api.OK)
	is(t, "no flights", source.CheckFlights(types(8), nil), api.OK)
	is(t, "the most", source.CheckFlights(types(8), flights(16)), api.OK)
	is(t, "a flight with a type's name", source.CheckFlights(types(1), []source.Flight{named("t0", "t0")}), api.OK)
	for i, x := range badFlights {
		is(t, fmt.Sprint("bad CheckFlights ", i), source.CheckFlights(x.types, x.l), x.e)
	}
}

// P2.3: totals, parts and the loudest flight.
func TestTotals(t *testing.T) {
	near := at(4, 2, 0)
	both := []source.Type{jet(), owl()}
	one, two, three := named("one", "jet"), named("two", "owl"), named("three", "jet")
	for i, x := range []struct {
		l       []source.Flight
		total   int
		parts   []int
		loudest string
		e       api.Errno
	}{
		{[]source.Flight{one, two}, 2700, []int{2700, 0}, "one", api.OK},
		{[]source.Flight{two, one}, 2700, []int{0, 2700}, "one", api.OK},
		{[]source.Flight{one, two, three}, 5400, []int{2700, 0, 2700}, "one", api.OK},
		{[]source.Flight{two, three, one}, 5400, []int{0, 2700, 2700}, "three", api.OK},
		{[]source.Flight{two}, 0, []int{0}, "two", api.OK},
		{nil, 0, nil, "", api.ErrEmpty},
	} {
		n, e := source.Total(both, x.l, near)
		is(t, fmt.Sprint("Total ", i), n, x.total)
		is(t, "error of Total", e, api.OK)
		l, e := source.Parts(both, x.l, near)
		are(t, fmt.Sprint("Parts ", i), l, x.parts)
		is(t, "error of Parts", e, api.OK)
		s, e := source.Loudest(both, x.l, near)
		is(t, fmt.Sprint("Loudest ", i), s, x.loudest)
		is(t, "error of Loudest", e, x.e)
	}
	late := source.Flight{Name: "late", Type: "jet", Track: flight()}
	late.Track[0].Tick, late.Track[1].Tick = api.MaxTick-4, api.MaxTick
	n, e := source.Total(both, []source.Flight{late}, near)
	is(t, "Total until the last tick", n, 2700)
	is(t, "error", e, api.OK)
}

// P2.3: the errors of totals: those of types and flights come before that of a receiver, and this before ErrEmpty.
func TestTotalErrors(t *testing.T) {
	try := func(what string, types []source.Type, l []source.Flight, receiver api.Vector, want api.Errno) {
		n, e := source.Total(types, l, receiver)
		is(t, "error of Total of "+what, e, want)
		is(t, "number beside the error", n, 0)
		parts, e := source.Parts(types, l, receiver)
		is(t, "error of Parts of "+what, e, want)
		is(t, "numbers beside the error", len(parts), 0)
		s, e := source.Loudest(types, l, receiver)
		is(t, "error of Loudest of "+what, e, want)
		is(t, "name beside the error", s, "")
	}
	for i, x := range badFlights {
		try(fmt.Sprint("bad flights ", i), x.types, x.l, at(0, 0, -1), x.e)
	}
	for i, x := range []api.Vector{at(100001, 0, 0), at(-100001, 0, 0), at(0, 100001, 0), at(0, -100001, 0), at(0, 0, -1), at(0, 0, 20001)} {
		try(fmt.Sprint("bad receiver ", i), types(1), flights(1), x, api.ErrRange)
		try(fmt.Sprint("bad receiver, no flights ", i), nil, nil, x, api.ErrRange)
	}
}
