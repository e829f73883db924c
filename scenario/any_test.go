package scenario_test

import (
	"math"
	"slices"
	"strings"
	"testing"

	"flyover/api"
	"flyover/scenario"
)

var (
	anyInts    = []int{math.MinInt, -17, -1, 0, 1, 3, 16, 23, 1001, api.MaxEnergy, 1 << 32, math.MaxInt}
	anyStrings = []string{"", "\n", " ", "\x00", "\xff\n", "scenario", "scenario \n", "scenario a 1 1\n", "scenario a 0 0\ntype t\nflight f t 0 0\n", sampleString + "flight", strings.Repeat(" ", 4096), "scenario a 1 1\n" + strings.Repeat("type a\n", 580), "scenario a 1 " + strings.Repeat("9", 1<<20)}
)

// anyScenarios returns scenarios with two integers.
func anyScenarios(a, b int) []scenario.Scenario {
	return []scenario.Scenario{
		{}, airport(), day(), of(a, b, nil), of(a, b, kinds(kind("jet", 1, 2, 3)), flight("one", "jet", b, a)), of(1, 1, kinds(kind("jet", a), kind("prop", b)), flight("one", "jet", 0, 0), flight("two", "prop", 23, 0)),
		of(3, 1, make([]scenario.Type, 1000), make([]scenario.Flight, 1000)...), changed(func(s *scenario.Scenario) { s.Flights[0].Hour, s.Flights[1].Shift = a, b }), changed(func(s *scenario.Scenario) { s.Types[0].Energies = []int{a, b, a} }), changed(func(s *scenario.Scenario) { s.Flights = slices.Repeat(s.Flights, 300) }), flying(crowd(32)...),
	}
}

// tryScenario calls all functions of one scenario with two integers.
func tryScenario(s scenario.Scenario, a, b int) {
	scenario.CheckScenario(s)
	scenario.Map(s)
	scenario.Print(s)
	scenario.Banned(s, a, b)
	for _, name := range []string{"one", "two", "jet", "", "\xff"} {
		scenario.Footprint(s, name)
		scenario.Without(s, name)
		scenario.Displaced(s, name, a, b)
		scenario.Replaced(s, name, []int{a, b, a})
		scenario.Replaced(s, name, nil)
		scenario.With(s, flight(name, "jet", a, b))
		scenario.With(s, flight("new", name, b, a))
		for _, l := range [][]scenario.Pair{nil, pairs(a, b, b, a, a, a), pairs(1, a, 1, b, 1, 1), make([]scenario.Pair, 1000)} {
			scenario.Corrected(s, name, l)
		}
	}
	scenario.Scored(s, []int{a, b, 0}, 13)
	scenario.Scored(s, []int{1, 2, 3}, a)
	scenario.Scored(s, nil, b)
}

// tryChoices calls all functions of choices and pairs with two integers.
func tryChoices(a, b int) {
	for _, l := range [][]scenario.Choice{nil, four(), options(a, b, 0, 1, a, b), options(b, b, b, a, a, a, b, a, b), make([]scenario.Choice, 1000)} {
		scenario.CheckChoices(l)
		scenario.Front(l)
		scenario.Dominators(l)
		for _, by := range [][]int{nil, {a, b}, {a, b, b}, {-1, a, -1, b}, {b, 0, -1, -1}, make([]int, 1000)} {
			scenario.CheckFront(l, by)
		}
		scenario.Ranked(l, [3]int{a, b, 1})
		scenario.Ranked(l, [3]int{1, 1000, a})
	}
	for _, l := range [][]scenario.Pair{nil, pairs(a, b), pairs(a, b, b, a, a, a), pairs(0, a, 0, b, 1, 0), make([]scenario.Pair, 1000)} {
		scenario.Correction(l)
	}
}

// P1: each function terminates and does not panic, for all arguments.
func TestAnyArguments(t *testing.T) {
	for _, a := range anyInts {
		for _, b := range anyInts {
			all := anyScenarios(a, b)
			for _, s := range all {
				tryScenario(s, a, b)
				for _, other := range all {
					scenario.Common(s, other)
					scenario.Only(s, other)
					scenario.Same(s, other)
					scenario.Change(s, other)
				}
			}
			tryChoices(a, b)
		}
	}
	for _, s := range anyStrings {
		scenario.Parse(s)
		tryScenario(changed(func(x *scenario.Scenario) { x.Name = s }), 0, 1)
		tryScenario(changed(func(x *scenario.Scenario) { x.Types[0].Name = s }), 0, 1)
		tryScenario(changed(func(x *scenario.Scenario) { x.Flights[1].Type = s }), 0, 1)
		scenario.Front([]scenario.Choice{choice(s, 1, 2, 3)})
	}
	r := seeded()
	for range 3000 {
		s := []byte(sampleString)
		for range from(r, 1, 5) {
			s[r.Intn(len(s))] = "\n 019-tf\xff"[r.Intn(9)]
		}
		scenario.Parse(string(s))
		scenario.Parse(string(s[:r.Intn(len(s))]))
	}
}

// spoil changes all that a scenario has.
func spoil(s scenario.Scenario) {
	for i := range s.Types {
		for k := range s.Types[i].Energies {
			s.Types[i].Energies[k] = 7
		}
		s.Types[i].Energies = append(s.Types[i].Energies, 7)
		s.Types[i].Name = "spoilt"
	}
	for i := range s.Flights {
		s.Flights[i] = scenario.Flight{}
	}
	_ = append(s.Flights, scenario.Flight{Name: "spoilt"})
	_ = append(s.Types, scenario.Type{Name: "spoilt"})
}

// areRight tests that arguments are as they were.
func areRight(t *testing.T, a arguments) {
	t.Helper()
	want := right()
	isScenario(t, "the first scenario", a.a, want.a)
	isScenario(t, "the second scenario", a.b, want.b)
	are(t, "the energies", a.energies, want.energies)
	are(t, "the pairs", a.pairs, want.pairs)
	are(t, "the people", a.people, want.people)
	are(t, "the choices", a.choices, want.choices)
	are(t, "the dominators", a.by, want.by)
}

// Arguments are not modified, and results share no memory with them or with each other.
func TestMemory(t *testing.T) {
	a := right()
	// Further elements would fit where a result shared the memory.
	a.a.Flights = append(make([]scenario.Flight, 0, 40), a.a.Flights...)
	more, _ := scenario.With(a.a, a.further)
	less, _ := scenario.Without(a.a, a.flight)
	replaced, _ := scenario.Replaced(a.a, a.kind, a.energies)
	displaced, _ := scenario.Displaced(a.a, a.flight, a.hour, a.shift)
	banned, _ := scenario.Banned(a.a, a.from, a.to)
	corrected, _ := scenario.Corrected(a.a, a.kind, a.pairs)
	parsed, _, _ := scenario.Parse(sampleString)
	for _, s := range []scenario.Scenario{more, less, replaced, displaced, banned, corrected, parsed} {
		is(t, "types of a result", len(s.Types), 2)
		spoil(s)
		areRight(t, a)
	}
	is(t, "no flight beyond the last one", a.a.Flights[:4][3], scenario.Flight{})
	footprint, _ := scenario.Footprint(a.a, "one")
	footprint.Energies[0] = 7
	whole, _ := scenario.Map(a.a)
	whole.Energies[0] = 7
	common, _ := scenario.Common(a.a, a.b)
	common[0] = ""
	only, _ := scenario.Only(a.a, a.b)
	only[0] = ""
	scenario.Same(a.a, a.b)
	change, _ := scenario.Change(a.a, a.b)
	change[0] = 7
	scenario.Correction(a.pairs)
	scenario.Scored(a.a, a.people, a.level)
	front, _ := scenario.Front(a.choices)
	front[0] = 7
	by, _ := scenario.Dominators(a.choices)
	by[0] = 7
	scenario.CheckFront(a.choices, a.by)
	rank, _ := scenario.Ranked(a.choices, a.weights)
	rank[0] = 7
	scenario.Print(a.a)
	areRight(t, a)
	again, _, _ := scenario.Parse(sampleString)
	isScenario(t, "Parse again", again, airport())
	// Types that share their energies do not share them in a result.
	shared := airport()
	shared.Types[1].Energies = shared.Types[0].Energies
	apart, _ := scenario.Without(shared, "one")
	apart.Types[0].Energies[0] = 7
	are(t, "the energies of the other type", apart.Types[1].Energies, []int{100, 50, 20})
}
