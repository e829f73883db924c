package scenario_test

import (
	"fmt"
	"math"
	"slices"
	"strings"
	"testing"

	"flyover/api"
	"flyover/contour"
	"flyover/scenario"
)

const most = api.MaxEnergy

// P9.1: the errors of a scenario.
func TestCheckScenario(t *testing.T) {
	longest := strings.Repeat("a", 24)
	for i, x := range []struct {
		change func(s *scenario.Scenario)
		e      api.Errno
	}{
		{func(s *scenario.Scenario) {}, api.OK}, {func(s *scenario.Scenario) { s.Flights = nil }, api.OK}, {func(s *scenario.Scenario) { s.Types, s.Flights = nil, nil }, api.OK},
		{func(s *scenario.Scenario) { s.Name = longest }, api.OK}, {func(s *scenario.Scenario) { s.Name = longest + "a" }, api.ErrName}, {func(s *scenario.Scenario) { s.Name = "" }, api.ErrName}, {func(s *scenario.Scenario) { s.Name = "a b" }, api.ErrName},
		{func(s *scenario.Scenario) { s.Width, s.Height = 1, 3 }, api.OK}, {func(s *scenario.Scenario) { s.Width = 0 }, api.ErrRange}, {func(s *scenario.Scenario) { s.Width = 17 }, api.ErrRange}, {func(s *scenario.Scenario) { s.Width, s.Height = -3, -1 }, api.ErrRange}, {func(s *scenario.Scenario) { s.Height = 17 }, api.ErrRange}, {func(s *scenario.Scenario) { s.Width, s.Height = math.MinInt, math.MaxInt }, api.ErrRange},
		{func(s *scenario.Scenario) { s.Width, s.Height, s.Types, s.Flights = 16, 16, nil, nil }, api.OK}, {func(s *scenario.Scenario) {
			s.Types = kinds(kind("jet", make([]int, 256)...))
			s.Width, s.Height, s.Flights = 16, 16, nil
		}, api.OK}, {func(s *scenario.Scenario) {
			s.Types = kinds(kind("jet", make([]int, 255)...))
			s.Width, s.Height, s.Flights = 16, 16, nil
		}, api.ErrShape},
		{func(s *scenario.Scenario) { s.Types, s.Flights = fleet(8), nil }, api.OK}, {func(s *scenario.Scenario) { s.Types, s.Flights = fleet(9), nil }, api.ErrMany}, {func(s *scenario.Scenario) { s.Types[0].Name = "1" }, api.ErrName}, {func(s *scenario.Scenario) { s.Types[1].Name = "jet" }, api.ErrTwice}, {func(s *scenario.Scenario) { s.Types[1] = kind("jet") }, api.ErrTwice},
		{func(s *scenario.Scenario) { s.Types[1].Energies = nil }, api.ErrShape}, {func(s *scenario.Scenario) { s.Types[0].Energies = []int{1, 2} }, api.ErrShape}, {func(s *scenario.Scenario) { s.Types[0].Energies = []int{1, 2, 3, 4} }, api.ErrShape}, {func(s *scenario.Scenario) { s.Types[0].Energies = []int{0, most, 0} }, api.OK}, {func(s *scenario.Scenario) { s.Types[0].Energies = []int{0, most + 1, 0} }, api.ErrRange}, {func(s *scenario.Scenario) { s.Types[0].Energies = []int{0, 0, -1} }, api.ErrRange},
		{func(s *scenario.Scenario) { s.Flights = crowd(32) }, api.OK}, {func(s *scenario.Scenario) { s.Flights = crowd(33) }, api.ErrMany}, {func(s *scenario.Scenario) { s.Flights[2].Name = "" }, api.ErrName}, {func(s *scenario.Scenario) { s.Flights[2].Name = "one" }, api.ErrTwice}, {func(s *scenario.Scenario) { s.Flights[2].Name = "One" }, api.OK}, {func(s *scenario.Scenario) { s.Flights[2].Name = "jet" }, api.OK}, {func(s *scenario.Scenario) { s.Types = s.Types[:1] }, api.ErrUnknown}, {func(s *scenario.Scenario) { s.Flights[2].Type = "" }, api.ErrUnknown}, {func(s *scenario.Scenario) { s.Flights[2].Type = "one" }, api.ErrUnknown},
		{func(s *scenario.Scenario) { s.Flights[2].Hour = 23 }, api.OK}, {func(s *scenario.Scenario) { s.Flights[2].Hour = 0 }, api.OK}, {func(s *scenario.Scenario) { s.Flights[2].Hour = 24 }, api.ErrRange}, {func(s *scenario.Scenario) { s.Flights[2].Hour = -1 }, api.ErrRange}, {func(s *scenario.Scenario) { s.Flights[2].Shift = 16 }, api.OK}, {func(s *scenario.Scenario) { s.Flights[2].Shift = -16 }, api.OK}, {func(s *scenario.Scenario) { s.Flights[2].Shift = 17 }, api.ErrRange}, {func(s *scenario.Scenario) { s.Flights[2].Shift = -17 }, api.ErrRange}, {func(s *scenario.Scenario) { s.Flights[2].Shift = math.MinInt }, api.ErrRange},
	} {
		is(t, fmt.Sprint("CheckScenario ", i), scenario.CheckScenario(changed(x.change)), x.e)
	}
	is(t, "CheckScenario of nothing", scenario.CheckScenario(scenario.Scenario{}), api.ErrName)
	inOrder(t, "CheckScenario", func(a arguments) (api.Errno, bool) { return scenario.CheckScenario(a.a), true }, faultsOf(first))
}

// P9.1: footprints of flights.
func TestFootprint(t *testing.T) {
	// Each energy of the jet is another one.
	square := of(3, 2, kinds(kind("jet", 1, 2, 3, 4, 5, 6)))
	for i, x := range []struct {
		s    scenario.Scenario
		f    scenario.Flight
		want []int
	}{
		{airport(), flight("x", "jet", 12, 0), []int{100, 50, 20}}, {airport(), flight("x", "jet", 20, 1), []int{0, 300, 150}}, {airport(), flight("x", "prop", 2, 0), []int{100, 100, 100}},
		{square, flight("x", "jet", 12, 0), []int{1, 2, 3, 4, 5, 6}}, {square, flight("x", "jet", 12, 1), []int{0, 1, 2, 0, 4, 5}}, {square, flight("x", "jet", 12, 2), []int{0, 0, 1, 0, 0, 4}}, {square, flight("x", "jet", 12, 3), make([]int, 6)}, {square, flight("x", "jet", 12, 16), make([]int, 6)}, {square, flight("x", "jet", 12, -1), []int{2, 3, 0, 5, 6, 0}}, {square, flight("x", "jet", 12, -2), []int{3, 0, 0, 6, 0, 0}}, {square, flight("x", "jet", 12, -3), make([]int, 6)}, {square, flight("x", "jet", 12, -16), make([]int, 6)},
		{square, flight("x", "jet", 23, 1), []int{0, 10, 20, 0, 40, 50}}, {square, flight("x", "jet", 22, -2), []int{9, 0, 0, 18, 0, 0}},
		{of(1, 3, kinds(kind("jet", 1, 2, 3))), flight("x", "jet", 19, 0), []int{3, 6, 9}}, {of(1, 3, kinds(kind("jet", 1, 2, 3))), flight("x", "jet", 19, 1), []int{0, 0, 0}},
		// What is too large, but not in the footprint, does not count.
		{of(2, 1, kinds(kind("jet", most/10, most))), flight("x", "jet", 0, 1), []int{0, most}}, {of(2, 1, kinds(kind("jet", most, most))), flight("x", "jet", 0, 2), []int{0, 0}}, {of(2, 1, kinds(kind("jet", most, most))), flight("x", "jet", 7, 0), []int{most, most}},
	} {
		x.s.Flights = []scenario.Flight{flight("other", x.f.Type, 3, 0), x.f}
		g, e := scenario.Footprint(x.s, "x")
		isGrid(t, fmt.Sprint("Footprint ", i), g, grid(x.s.Width, x.s.Height, x.want...))
		is(t, fmt.Sprint("error of Footprint ", i), e, api.OK)
	}
	for hour := range 24 {
		g, e := scenario.Footprint(flying(flight("x", "prop", hour, 0)), "x")
		isGrid(t, fmt.Sprint("Footprint at ", hour), g, grid(3, 1, alike(3, 10*factorOf(hour))...))
		is(t, "error of Footprint", e, api.OK)
	}
	for i, x := range []struct {
		energy, hour, shift int
		e                   api.Errno
	}{
		{most, 12, 0, api.OK}, {most/10 + 1, 6, 0, api.ErrLarge}, {most/10 + 1, 23, 0, api.ErrLarge}, {most/3 + 1, 19, 1, api.ErrLarge}, {most / 3, 22, 0, api.OK}, {most / 10, 6, 2, api.OK}, {most, 6, 3, api.OK}, {most, 6, 2, api.ErrLarge},
	} {
		s := of(3, 1, kinds(kind("jet", x.energy, 0, 0)), flight("x", "jet", x.hour, x.shift))
		g, e := scenario.Footprint(s, "x")
		is(t, fmt.Sprint("error of Footprint of the energy ", i), e, x.e)
		is(t, fmt.Sprint("nothing beside it ", i), noGrid(g), x.e != api.OK)
	}
	inOrder(t, "Footprint", func(a arguments) (api.Errno, bool) {
		g, e := scenario.Footprint(a.a, a.flight)
		return e, noGrid(g)
	}, faultsOf(first), flightFaults(), []fault{loud(first)})
}

// P9.1: maps.
func TestMap(t *testing.T) {
	for i, x := range []struct {
		s scenario.Scenario
		g contour.Grid
		e api.Errno
	}{
		{airport(), grid(3, 1, 200, 450, 270), api.OK}, {day(), grid(3, 1, 100, 150, 70), api.OK}, {flying(), grid(3, 1, 0, 0, 0), api.OK}, {of(2, 2, nil), grid(2, 2, 0, 0, 0, 0), api.OK}, {flying(crowd(32)...), grid(3, 1, 320, 320, 320), api.OK},
		{of(1, 1, kinds(kind("jet", most-1), kind("prop", 1)), flight("x", "jet", 12, 0), flight("y", "prop", 12, 0)), grid(1, 1, most), api.OK}, {of(1, 1, kinds(kind("jet", most-1), kind("prop", 1)), flight("x", "jet", 12, 0), flight("y", "prop", 19, 0)), contour.Grid{}, api.ErrLarge}, {of(1, 1, kinds(kind("jet", most)), flight("x", "jet", 12, 0), flight("y", "jet", 12, 1)), grid(1, 1, most), api.OK}, {of(1, 1, kinds(kind("jet", most)), flight("x", "jet", 20, 0)), contour.Grid{}, api.ErrLarge}, {of(2, 1, kinds(kind("jet", 0, most/2+1)), flight("x", "jet", 12, 0), flight("y", "jet", 12, 0)), contour.Grid{}, api.ErrLarge},
	} {
		g, e := scenario.Map(x.s)
		isGrid(t, fmt.Sprint("Map ", i), g, x.g)
		is(t, fmt.Sprint("error of Map ", i), e, x.e)
	}
	inOrder(t, "Map", func(a arguments) (api.Errno, bool) {
		g, e := scenario.Map(a.a)
		return e, noGrid(g)
	}, faultsOf(first), []fault{loud(first)})
}

// P9.1: footprints and maps, cell by cell.
func TestMapsByDefinition(t *testing.T) {
	r := seeded()
	large := 0
	for range 1000 {
		s := anyScenario(r, 8)
		if r.Intn(4) == 0 {
			s.Types[0].Energies[0] = from(r, most/4, most)
		}
		what := fmt.Sprint(" of ", s)
		for _, f := range s.Flights {
			want, no := asGrid(s, footprintOf(s, f))
			g, e := scenario.Footprint(s, f.Name)
			isGrid(t, "Footprint of "+f.Name+what, g, want)
			is(t, "error of Footprint of "+f.Name+what, e, no)
		}
		want, no := asGrid(s, mapOf(s))
		g, e := scenario.Map(s)
		isGrid(t, "Map"+what, g, want)
		is(t, "error of Map"+what, e, no)
		if e != api.OK {
			large++
		}
	}
	is(t, fmt.Sprint("some are too large: ", large), large > 50 && large < 950, true)
}

// P9.1: flights in common, and changes.
func TestCommon(t *testing.T) {
	one, two, three := airport().Flights[0], airport().Flights[1], airport().Flights[2]
	jumbo := changed(func(s *scenario.Scenario) {
		s.Types[0].Name, s.Flights = "jumbo", []scenario.Flight{flight("two", "jumbo", 20, 1), flight("one", "prop", 12, 0)}
	})
	// Types of one name with other energies, and of other names with the same energies.
	crossed := changed(func(s *scenario.Scenario) { s.Types[0].Name, s.Types[1].Name = "prop", "jet" })
	louder := changed(func(s *scenario.Scenario) { s.Types[0].Energies[2]++ })
	for i, x := range []struct {
		a, b         scenario.Scenario
		common, only []string
		same         bool
		change       []int
	}{
		{airport(), day(), []string{"one"}, []string{"two", "three"}, false, []int{-100, -300, -200}}, {day(), airport(), []string{"one"}, []string{"two"}, false, []int{100, 300, 200}}, {airport(), airport(), []string{"one", "two", "three"}, nil, true, []int{0, 0, 0}}, {airport(), flying(three, one, two), []string{"one", "two", "three"}, nil, true, []int{0, 0, 0}}, {flying(three, one, two), airport(), []string{"three", "one", "two"}, nil, true, []int{0, 0, 0}},
		{flying(), flying(), nil, nil, true, []int{0, 0, 0}}, {flying(), of(3, 1, nil), nil, nil, true, []int{0, 0, 0}}, {flying(), airport(), nil, nil, false, []int{200, 450, 270}}, {airport(), flying(), nil, []string{"one", "two", "three"}, false, []int{-200, -450, -270}}, {flying(two), airport(), []string{"two"}, nil, false, []int{200, 150, 120}}, {airport(), flying(two), []string{"two"}, []string{"one", "three"}, false, []int{-200, -150, -120}},
		{airport(), jumbo, []string{"two"}, []string{"one", "three"}, false, []int{-190, -140, -110}}, {airport(), crossed, nil, []string{"one", "two", "three"}, false, []int{810, 90, -30}}, {airport(), louder, []string{"three"}, []string{"one", "two"}, false, []int{0, 0, 1}},
		{flying(one), flying(flight("one", "jet", 13, 0)), nil, []string{"one"}, false, []int{0, 0, 0}}, {flying(one), flying(flight("one", "jet", 12, 1)), nil, []string{"one"}, false, []int{-100, 50, 30}}, {flying(one), flying(flight("One", "jet", 12, 0)), nil, []string{"one"}, false, []int{0, 0, 0}}, {flying(flight("x", "jet", 12, 5)), flying(flight("x", "jet", 12, 6)), nil, []string{"x"}, false, []int{0, 0, 0}},
		// Types that no flight has make no difference.
		{flying(three), changed(func(s *scenario.Scenario) { s.Types, s.Flights = s.Types[1:], s.Flights[2:] }), []string{"three"}, nil, true, []int{0, 0, 0}},
	} {
		common, e1 := scenario.Common(x.a, x.b)
		only, e2 := scenario.Only(x.a, x.b)
		same, e3 := scenario.Same(x.a, x.b)
		change, e4 := scenario.Change(x.a, x.b)
		are(t, fmt.Sprint("Common ", i), common, x.common)
		are(t, fmt.Sprint("Only ", i), only, x.only)
		is(t, fmt.Sprint("Same ", i), same, x.same)
		are(t, fmt.Sprint("Change ", i), change, x.change)
		are(t, fmt.Sprint("errors ", i), []api.Errno{e1, e2, e3, e4}, alike(4, api.OK))
	}
}

// P9.1: the errors of two scenarios.
func TestCommonErrors(t *testing.T) {
	inOrder(t, "Common", func(a arguments) (api.Errno, bool) {
		l, e := scenario.Common(a.a, a.b)
		return e, len(l) == 0
	}, bothFaults())
	inOrder(t, "Only", func(a arguments) (api.Errno, bool) {
		l, e := scenario.Only(a.a, a.b)
		return e, len(l) == 0
	}, bothFaults())
	inOrder(t, "Same", func(a arguments) (api.Errno, bool) {
		same, e := scenario.Same(a.a, a.b)
		return e, !same
	}, bothFaults())
	inOrder(t, "Change", func(a arguments) (api.Errno, bool) {
		l, e := scenario.Change(a.a, a.b)
		return e, len(l) == 0
	}, bothFaults(), []fault{loud(first), loud(second)})
	for i, x := range []scenario.Scenario{of(1, 3, nil), of(3, 2, nil), of(2, 1, nil)} {
		_, e1 := scenario.Common(airport(), x)
		_, e2 := scenario.Only(x, airport())
		_, e3 := scenario.Same(airport(), x)
		_, e4 := scenario.Change(x, airport())
		are(t, fmt.Sprint("errors of two sizes ", i), []api.Errno{e1, e2, e3, e4}, alike(4, api.ErrShape))
	}
	// Maps that are too large do not matter but for their change.
	large := of(3, 1, kinds(kind("jet", most, 0, 0)), flight("x", "jet", 12, 0), flight("y", "jet", 12, 0))
	same, e := scenario.Same(large, large)
	is(t, "Same of large scenarios", same, true)
	is(t, "error of Same of large scenarios", e, api.OK)
	names, e := scenario.Common(large, large)
	are(t, "Common of large scenarios", names, []string{"x", "y"})
	is(t, "error of Common of large scenarios", e, api.OK)
	names, e = scenario.Only(large, airport())
	are(t, "Only of large scenarios", names, []string{"x", "y"})
	is(t, "error of Only of large scenarios", e, api.OK)
}

// commonOf reports whether a flight of a scenario is common, by the definition.
func commonOf(a, b scenario.Scenario, f scenario.Flight) bool {
	energies := func(s scenario.Scenario, name string) []int {
		return s.Types[slices.IndexFunc(s.Types, func(t scenario.Type) bool { return t.Name == name })].Energies
	}
	for _, g := range b.Flights {
		if g.Name == f.Name && g.Hour == f.Hour && g.Shift == f.Shift && slices.Equal(energies(a, f.Type), energies(b, g.Type)) {
			return true
		}
	}
	return false
}

// P9.1: flights in common, and changes, by the definition.
func TestCommonByDefinition(t *testing.T) {
	r := seeded()
	kinds := map[string]int{}
	for range 2000 {
		a := anyScenario(r, 5)
		b := altered(r, a)
		what := fmt.Sprint(" of ", a, b)
		var common, only []string
		same := len(a.Flights) == len(b.Flights)
		for _, f := range a.Flights {
			if commonOf(a, b, f) {
				common = append(common, f.Name)
				continue
			}
			only = append(only, f.Name)
			same = false
		}
		got, e := scenario.Common(a, b)
		are(t, "Common"+what, got, common)
		is(t, "error of Common"+what, e, api.OK)
		got, e = scenario.Only(a, b)
		are(t, "Only"+what, got, only)
		is(t, "error of Only"+what, e, api.OK)
		is2, e := scenario.Same(a, b)
		is(t, "Same"+what, is2, same)
		is(t, "error of Same"+what, e, api.OK)
		want := mapOf(b)
		plus(want, mapOf(a), -1)
		change, e := scenario.Change(a, b)
		are(t, "Change"+what, change, want)
		is(t, "error of Change"+what, e, api.OK)
		kinds[fmt.Sprint("same: ", same)]++
		kinds[fmt.Sprint("some are common: ", len(common) > 0, ", some are not: ", len(only) > 0)]++
	}
	is(t, fmt.Sprint("all kinds: ", kinds), len(kinds), 6)
	for _, n := range kinds {
		is(t, fmt.Sprint("many of all: ", kinds), n > 50, true)
	}
}
