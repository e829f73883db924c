package scenario_test

import (
	"fmt"
	"math"
	"slices"
	"strings"
	"testing"

	"flyover/api"
	"flyover/scenario"
)

// after returns what is expected of an act: the scenario where there is no error.
func after(s scenario.Scenario, e api.Errno) scenario.Scenario {
	if e != api.OK {
		return scenario.Scenario{}
	}
	return s
}

// P9.2: a further flight.
func TestWith(t *testing.T) {
	for i, x := range []struct {
		f scenario.Flight
		e api.Errno
	}{
		{flight("four", "prop", 0, 16), api.OK}, {flight("four", "jet", 23, -16), api.OK}, {flight("jet", "jet", 12, 0), api.OK}, {flight("One", "jet", 12, 0), api.OK}, {flight(strings.Repeat("a", 24), "jet", 12, 0), api.OK},
		{flight("", "prop", 0, 0), api.ErrName}, {flight("4", "prop", 0, 0), api.ErrName}, {flight(strings.Repeat("a", 25), "jet", 12, 0), api.ErrName}, {flight("one", "prop", 0, 0), api.ErrTwice}, {flight("three", "prop", 2, 0), api.ErrTwice}, {flight("four", "glider", 0, 0), api.ErrUnknown}, {flight("four", "", 0, 0), api.ErrUnknown}, {flight("four", "one", 0, 0), api.ErrUnknown},
		{flight("four", "prop", -1, 0), api.ErrRange}, {flight("four", "prop", 24, 0), api.ErrRange}, {flight("four", "prop", 0, -17), api.ErrRange}, {flight("four", "prop", 0, 17), api.ErrRange}, {flight("four", "prop", math.MinInt, math.MaxInt), api.ErrRange},
	} {
		s, e := scenario.With(airport(), x.f)
		isScenario(t, fmt.Sprint("With ", i), s, after(flying(append(airport().Flights, x.f)...), x.e))
		is(t, fmt.Sprint("error of With ", i), e, x.e)
	}
	s, e := scenario.With(flying(crowd(31)...), flight("f31", "prop", 12, 0))
	isScenario(t, "With the last flight", s, flying(crowd(32)...))
	is(t, "error of With the last flight", e, api.OK)
	s, e = scenario.With(flying(), flight("one", "jet", 12, 0))
	isScenario(t, "With the first flight", s, flying(flight("one", "jet", 12, 0)))
	is(t, "error of With the first flight", e, api.OK)
	full := fault{func(a *arguments) {
		// The flights that other faults change stay where they are.
		a.a.Flights = append(a.a.Flights, crowd(29)...)
	}, api.ErrMany}
	inOrder(t, "With", func(a arguments) (api.Errno, bool) {
		s, e := scenario.With(a.a, a.further)
		return e, isNothing(s)
	}, faultsOf(first), []fault{
		{func(a *arguments) { a.further.Name = "_" }, api.ErrName},
		{func(a *arguments) { a.further.Name = "two" }, api.ErrTwice},
		{func(a *arguments) { a.further.Type = "two" }, api.ErrUnknown},
		{func(a *arguments) { a.further.Hour = 24 }, api.ErrRange},
		{func(a *arguments) { a.further.Shift = -17 }, api.ErrRange},
		full,
	})
}

// P9.2: a flight less.
func TestWithout(t *testing.T) {
	l := airport().Flights
	for _, x := range []struct {
		name string
		left []scenario.Flight
		e    api.Errno
	}{
		{"one", l[1:], api.OK}, {"two", []scenario.Flight{l[0], l[2]}, api.OK}, {"three", l[:2], api.OK}, {"four", nil, api.ErrUnknown}, {"jet", nil, api.ErrUnknown}, {"", nil, api.ErrUnknown}, {"One", nil, api.ErrUnknown}, {"on", nil, api.ErrUnknown},
	} {
		s, e := scenario.Without(airport(), x.name)
		isScenario(t, "Without "+x.name, s, after(flying(x.left...), x.e))
		is(t, "error of Without "+x.name, e, x.e)
	}
	s, e := scenario.Without(flying(l[0]), "one")
	isScenario(t, "Without the only flight", s, flying())
	is(t, "error of Without the only flight", e, api.OK)
	inOrder(t, "Without", func(a arguments) (api.Errno, bool) {
		s, e := scenario.Without(a.a, a.flight)
		return e, isNothing(s)
	}, faultsOf(first), flightFaults())
}

// P9.2: a type that is replaced.
func TestReplaced(t *testing.T) {
	for i, x := range []struct {
		kind     string
		energies []int
		e        api.Errno
	}{
		{"prop", []int{1, 2, 3}, api.OK}, {"jet", []int{0, most, 0}, api.OK}, {"jet", []int{100, 50, 20}, api.OK}, {"one", []int{1, 2, 3}, api.ErrUnknown}, {"", []int{1, 2, 3}, api.ErrUnknown}, {"Jet", []int{1, 2, 3}, api.ErrUnknown}, {"one", nil, api.ErrUnknown},
		{"jet", nil, api.ErrShape}, {"jet", []int{1, 2}, api.ErrShape}, {"jet", []int{1, 2, 3, 4}, api.ErrShape}, {"jet", []int{-1, 2}, api.ErrShape}, {"jet", []int{1, 2, -3}, api.ErrRange}, {"jet", []int{most + 1, 2, 3}, api.ErrRange}, {"jet", []int{math.MaxInt, math.MinInt, 3}, api.ErrRange},
	} {
		s, e := scenario.Replaced(airport(), x.kind, x.energies)
		want := changed(func(s *scenario.Scenario) {
			for k := range s.Types {
				if s.Types[k].Name == x.kind {
					s.Types[k].Energies = x.energies
				}
			}
		})
		isScenario(t, fmt.Sprint("Replaced ", i), s, after(want, x.e))
		is(t, fmt.Sprint("error of Replaced ", i), e, x.e)
	}
	inOrder(t, "Replaced", func(a arguments) (api.Errno, bool) {
		s, e := scenario.Replaced(a.a, a.kind, a.energies)
		return e, isNothing(s)
	}, faultsOf(first), kindFaults(), []fault{
		{func(a *arguments) { a.energies = []int{-1} }, api.ErrShape},
		{func(a *arguments) { a.energies[2] = most + 1 }, api.ErrRange},
	})
}

// P9.2: a flight that is displaced.
func TestDisplaced(t *testing.T) {
	for i, x := range []struct {
		name        string
		hour, shift int
		e           api.Errno
	}{
		{"two", 3, -2, api.OK}, {"one", 0, 16, api.OK}, {"three", 23, -16, api.OK}, {"one", 12, 0, api.OK}, {"four", 3, 0, api.ErrUnknown}, {"jet", 3, 0, api.ErrUnknown}, {"", -1, 17, api.ErrUnknown},
		{"two", -1, 0, api.ErrRange}, {"two", 24, 0, api.ErrRange}, {"two", 3, 17, api.ErrRange}, {"two", 3, -17, api.ErrRange}, {"two", math.MaxInt, 0, api.ErrRange}, {"two", 0, math.MinInt, api.ErrRange},
	} {
		s, e := scenario.Displaced(airport(), x.name, x.hour, x.shift)
		want := changed(func(s *scenario.Scenario) {
			for k, f := range s.Flights {
				if f.Name == x.name {
					s.Flights[k] = flight(f.Name, f.Type, x.hour, x.shift)
				}
			}
		})
		isScenario(t, fmt.Sprint("Displaced ", i), s, after(want, x.e))
		is(t, fmt.Sprint("error of Displaced ", i), e, x.e)
	}
	inOrder(t, "Displaced", func(a arguments) (api.Errno, bool) {
		s, e := scenario.Displaced(a.a, a.flight, a.hour, a.shift)
		return e, isNothing(s)
	}, faultsOf(first), flightFaults(), []fault{
		{func(a *arguments) { a.hour = 24 }, api.ErrRange},
		{func(a *arguments) { a.shift = -17 }, api.ErrRange},
	})
}

// P9.2: flights that are banned.
func TestBanned(t *testing.T) {
	l := airport().Flights
	for i, x := range []struct {
		from, to int
		left     []scenario.Flight
		e        api.Errno
	}{
		{22, 6, l[:2], api.OK}, {6, 22, l[2:], api.OK}, {12, 13, l[1:], api.OK}, {13, 12, l[:1], api.OK}, {20, 2, []scenario.Flight{l[0], l[2]}, api.OK}, {20, 3, l[:1], api.OK}, {21, 3, l[:2], api.OK}, {2, 12, l[:2], api.OK}, {3, 12, l, api.OK}, {2, 20, l[1:2], api.OK}, {2, 21, nil, api.OK}, {0, 23, nil, api.OK}, {23, 0, l, api.OK}, {23, 2, l, api.OK}, {21, 20, l[1:2], api.OK}, {0, 2, l, api.OK},
		{5, 5, nil, api.ErrConflict}, {0, 0, nil, api.ErrConflict}, {23, 23, nil, api.ErrConflict}, {24, 5, nil, api.ErrRange}, {5, 24, nil, api.ErrRange}, {-1, 5, nil, api.ErrRange}, {5, -1, nil, api.ErrRange}, {24, 24, nil, api.ErrRange}, {math.MinInt, math.MaxInt, nil, api.ErrRange},
	} {
		s, e := scenario.Banned(airport(), x.from, x.to)
		isScenario(t, fmt.Sprint("Banned ", i), s, after(flying(x.left...), x.e))
		is(t, fmt.Sprint("error of Banned ", i), e, x.e)
	}
	s, e := scenario.Banned(flying(), 0, 1)
	isScenario(t, "Banned without flights", s, flying())
	is(t, "error of Banned without flights", e, api.OK)
	inOrder(t, "Banned", func(a arguments) (api.Errno, bool) {
		s, e := scenario.Banned(a.a, a.from, a.to)
		return e, isNothing(s)
	}, faultsOf(first), []fault{
		{func(a *arguments) { a.from = 24 }, api.ErrRange},
		{func(a *arguments) { a.to = -1 }, api.ErrRange},
		{func(a *arguments) { a.from, a.to = 4, 4 }, api.ErrConflict},
	})
}

// P9.2: acts change what they are to change, and nothing else.
func TestActsByDefinition(t *testing.T) {
	r := seeded()
	gone := 0
	for range 1000 {
		s := anyScenario(r, 8)
		what := fmt.Sprint(" of ", s)
		f := someFlight(r, "new", s.Types)
		want := copyOf(s)
		want.Flights = append(want.Flights, f)
		got, e := scenario.With(s, f)
		isScenario(t, "With"+what, got, want)
		is(t, "error of With"+what, e, api.OK)
		k := r.Intn(len(s.Types))
		want = copyOf(s)
		want.Types[k].Energies = someEnergies(r, s.Width*s.Height, most)
		got, e = scenario.Replaced(s, s.Types[k].Name, want.Types[k].Energies)
		isScenario(t, "Replaced"+what, got, want)
		is(t, "error of Replaced"+what, e, api.OK)
		from, to := r.Intn(24), r.Intn(24)
		if from == to {
			continue
		}
		// The hours are counted one by one.
		banned := map[int]bool{}
		for hour := from; hour != to; hour = (hour + 1) % 24 {
			banned[hour] = true
		}
		want = copyOf(s)
		want.Flights = slices.DeleteFunc(want.Flights, func(f scenario.Flight) bool { return banned[f.Hour] })
		got, e = scenario.Banned(s, from, to)
		isScenario(t, fmt.Sprint("Banned ", from, to, what), got, want)
		is(t, "error of Banned"+what, e, api.OK)
		gone += len(s.Flights) - len(want.Flights)
		for i, f := range s.Flights {
			want = copyOf(s)
			want.Flights = slices.Delete(want.Flights, i, i+1)
			got, e = scenario.Without(s, f.Name)
			isScenario(t, "Without "+f.Name+what, got, want)
			is(t, "error of Without"+what, e, api.OK)
			want = copyOf(s)
			want.Flights[i].Hour, want.Flights[i].Shift = r.Intn(24), r.Intn(33)-16
			got, e = scenario.Displaced(s, f.Name, want.Flights[i].Hour, want.Flights[i].Shift)
			isScenario(t, "Displaced "+f.Name+what, got, want)
			is(t, "error of Displaced"+what, e, api.OK)
		}
	}
	is(t, fmt.Sprint("many are banned: ", gone), gone > 500, true)
}
