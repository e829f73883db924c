package scenario_test

import (
	"fmt"
	"math/rand"
	"slices"
	"strconv"
	"testing"

	"flyover/api"
	"flyover/contour"
	"flyover/scenario"
)

// is compares a result with the expected one.
func is[T comparable](t *testing.T, what string, got, want T) {
	t.Helper()
	if got != want {
		t.Errorf("%s: got %v, want %v", what, got, want)
	}
}

// are compares a list with the expected one; nil and empty lists are equal.
func are[T comparable](t *testing.T, what string, got, want []T) {
	t.Helper()
	if !slices.Equal(got, want) {
		t.Errorf("%s: got %v, want %v", what, got, want)
	}
}

// isGrid compares a grid with the expected one.
func isGrid(t *testing.T, what string, got, want contour.Grid) {
	t.Helper()
	if !slices.Equal(got.Energies, want.Energies) || got.Width != want.Width || got.Height != want.Height {
		t.Errorf("%s: got %v, want %v", what, got, want)
	}
}

func sameType(x, y scenario.Type) bool {
	return x.Name == y.Name && slices.Equal(x.Energies, y.Energies)
}

// isScenario compares a scenario with the expected one; nil and empty lists are equal.
func isScenario(t *testing.T, what string, got, want scenario.Scenario) {
	t.Helper()
	same := got.Name == want.Name && got.Width == want.Width && got.Height == want.Height
	if !same || !slices.EqualFunc(got.Types, want.Types, sameType) || !slices.Equal(got.Flights, want.Flights) {
		t.Errorf("%s: got %v, want %v", what, got, want)
	}
}

// isNothing reports whether a scenario is the zero value.
func isNothing(s scenario.Scenario) bool {
	return s.Name == "" && s.Width == 0 && s.Height == 0 && len(s.Types) == 0 && len(s.Flights) == 0
}

// noGrid reports whether a grid is the zero value.
func noGrid(g contour.Grid) bool {
	return g.Width == 0 && g.Height == 0 && len(g.Energies) == 0
}

// seeded returns numbers that are the same in each run.
func seeded() *rand.Rand { return rand.New(rand.NewSource(1)) }

// from returns an integer from low to high.
func from(r *rand.Rand, low, high int) int { return low + r.Intn(high-low+1) }

// one returns one of some.
func one[T any](r *rand.Rand, l ...T) T { return l[r.Intn(len(l))] }

func alike[T any](n int, x T) []T { return slices.Repeat([]T{x}, n) }

func kind(name string, l ...int) scenario.Type { return scenario.Type{Name: name, Energies: l} }

func flight(name, kind string, hour, shift int) scenario.Flight {
	return scenario.Flight{Name: name, Type: kind, Hour: hour, Shift: shift}
}

func pair(predicted, measured int) scenario.Pair {
	return scenario.Pair{Predicted: predicted, Measured: measured}
}

func choice(name string, a, b, c int) scenario.Choice {
	return scenario.Choice{Name: name, Scores: [3]int{a, b, c}}
}

func grid(width, height int, l ...int) contour.Grid {
	return contour.Grid{Width: width, Height: height, Energies: l}
}

// of returns a scenario with a size, types and flights.
func of(width, height int, types []scenario.Type, flights ...scenario.Flight) scenario.Scenario {
	return scenario.Scenario{Name: "s", Width: width, Height: height, Types: types, Flights: flights}
}

// kinds returns types.
func kinds(l ...scenario.Type) []scenario.Type { return l }

// airport returns the scenario A of the document's examples.
func airport() scenario.Scenario {
	s := of(3, 1, kinds(kind("jet", 100, 50, 20), kind("prop", 10, 10, 10)), flight("one", "jet", 12, 0), flight("two", "jet", 20, 1), flight("three", "prop", 2, 0))
	s.Name = "a"
	return s
}

// changed returns A with a change.
func changed(f func(s *scenario.Scenario)) scenario.Scenario {
	s := airport()
	f(&s)
	return s
}

// flying returns A with other flights.
func flying(l ...scenario.Flight) scenario.Scenario {
	return changed(func(s *scenario.Scenario) { s.Flights = l })
}

// day returns the scenario B of the document's examples.
func day() scenario.Scenario {
	s := flying(flight("one", "jet", 12, 0), flight("two", "jet", 12, 1))
	s.Name = "b"
	return s
}

// crowd returns n flights of A's types.
func crowd(n int) []scenario.Flight {
	var l []scenario.Flight
	for i := range n {
		l = append(l, flight("f"+strconv.Itoa(i), "prop", 12, 0))
	}
	return l
}

// fleet returns n types of three cells.
func fleet(n int) []scenario.Type {
	var l []scenario.Type
	for i := range n {
		l = append(l, kind("t"+strconv.Itoa(i), i, 0, 1))
	}
	return l
}

// four returns the choices of the document's examples.
func four() []scenario.Choice {
	return []scenario.Choice{choice("p", 3, 5, 1), choice("q", 4, 5, 1), choice("r", 2, 9, 9), choice("s", 3, 5, 1)}
}

// arguments are those of all functions together.
type arguments struct {
	a, b     scenario.Scenario
	flight   string
	further  scenario.Flight
	kind     string
	energies []int
	hour     int
	shift    int
	from     int
	to       int
	pairs    []scenario.Pair
	people   []int
	level    int
	choices  []scenario.Choice
	by       []int
	weights  [3]int
}

// right returns arguments without an error: those of the examples.
func right() arguments {
	return arguments{
		a: airport(), b: day(), flight: "two", further: flight("four", "prop", 0, -16), kind: "prop", energies: []int{1, 2, 3}, hour: 12, shift: -2, from: 22, to: 6,
		pairs:  []scenario.Pair{pair(100, 110), pair(200, 190), pair(100, 140)},
		people: []int{5, 6, 7}, level: 13, choices: four(), by: []int{-1, 0, -1, -1}, weights: [3]int{1, 1, 1},
	}
}

// fault is a change of arguments, with the error that they have then.
type fault struct {
	change func(a *arguments)
	e      api.Errno
}

// first and second return the scenarios of arguments.
func first(a *arguments) *scenario.Scenario { return &a.a }

func second(a *arguments) *scenario.Scenario { return &a.b }

// faultsOf returns those of one of the scenarios, in the document's order.
func faultsOf(s func(a *arguments) *scenario.Scenario) []fault {
	return []fault{
		{func(a *arguments) { s(a).Name = "7" }, api.ErrName},
		{func(a *arguments) { s(a).Width = 17 }, api.ErrRange},
		{func(a *arguments) { s(a).Height = 0 }, api.ErrRange},
		{func(a *arguments) { s(a).Types = make([]scenario.Type, 9) }, api.ErrMany},
		{func(a *arguments) { s(a).Types[0].Energies = []int{-1} }, api.ErrShape},
		{func(a *arguments) { s(a).Types[0].Energies[2] = -1 }, api.ErrRange},
		{func(a *arguments) { s(a).Types[1].Name = "" }, api.ErrName},
		{func(a *arguments) { s(a).Types[1].Name = s(a).Types[0].Name }, api.ErrTwice},
		{func(a *arguments) { s(a).Types[1].Energies = []int{1, 2, 3, -1} }, api.ErrShape},
		{func(a *arguments) { s(a).Types[1].Energies[0] = api.MaxEnergy + 1 }, api.ErrRange},
		{func(a *arguments) { s(a).Flights = make([]scenario.Flight, 33) }, api.ErrMany},
		{func(a *arguments) { s(a).Flights[0].Shift = 17 }, api.ErrRange},
		{func(a *arguments) { s(a).Flights[1].Name = "_" }, api.ErrName},
		{func(a *arguments) { s(a).Flights[1].Name = s(a).Flights[0].Name }, api.ErrTwice},
		{func(a *arguments) { s(a).Flights[1].Type = "glider" }, api.ErrUnknown},
		{func(a *arguments) { s(a).Flights[1].Hour = 24 }, api.ErrRange},
		{func(a *arguments) { s(a).Flights[1].Shift = -17 }, api.ErrRange},
	}
}

// bothFaults returns those of two scenarios of one size, in the document's order.
func bothFaults() []fault {
	taller := fault{func(a *arguments) {
		a.b.Height = 2
		for i := range a.b.Types {
			a.b.Types[i].Energies = make([]int, 6)
		}
	}, api.ErrShape}
	return slices.Concat(faultsOf(first), faultsOf(second), []fault{taller})
}

// loud makes the map of a scenario too large.
func loud(s func(a *arguments) *scenario.Scenario) fault {
	return fault{func(a *arguments) { s(a).Types[0].Energies = []int{api.MaxEnergy, api.MaxEnergy, 0} }, api.ErrLarge}
}

// flightFaults returns those of the name of a flight.
func flightFaults() []fault {
	return []fault{{func(a *arguments) { a.flight = "jet" }, api.ErrUnknown}, {func(a *arguments) { a.flight = "" }, api.ErrUnknown}}
}

// kindFaults returns those of the name of a type.
func kindFaults() []fault {
	return []fault{{func(a *arguments) { a.kind = "one" }, api.ErrUnknown}, {func(a *arguments) { a.kind = "" }, api.ErrUnknown}}
}

// pairFaults returns those of pairs, and of their correction, in the document's order.
func pairFaults() []fault {
	return []fault{
		{func(a *arguments) { a.pairs = alike(65, pair(-1, -1)) }, api.ErrMany},
		{func(a *arguments) { a.pairs[0].Measured = -1 }, api.ErrRange},
		{func(a *arguments) { a.pairs[1].Predicted = api.MaxEnergy + 1 }, api.ErrRange},
		{func(a *arguments) { a.pairs = a.pairs[:2] }, api.ErrShort},
		{func(a *arguments) { a.pairs = alike(3, pair(0, 5)) }, api.ErrZero},
		{func(a *arguments) { a.pairs[2].Measured = api.MaxEnergy }, api.ErrLarge},
	}
}

// choiceFaults returns those of choices, in the document's order.
func choiceFaults() []fault {
	return []fault{
		{func(a *arguments) { a.choices = make([]scenario.Choice, 17) }, api.ErrMany},
		{func(a *arguments) { a.choices[0].Scores[2] = -1 }, api.ErrRange},
		{func(a *arguments) { a.choices[1].Name = "7" }, api.ErrName},
		{func(a *arguments) { a.choices[1].Name = "p" }, api.ErrTwice},
		{func(a *arguments) { a.choices[1].Scores[0] = 1000000001 }, api.ErrRange},
		{func(a *arguments) { a.choices[3].Name = "r" }, api.ErrTwice},
	}
}

// inOrder tests that of two errors the first one decides, and that nothing but zero values is beside it. The function f returns its error, and whether all of its other results are zero values.
func inOrder(t *testing.T, what string, f func(a arguments) (api.Errno, bool), faults ...[]fault) {
	t.Helper()
	e, _ := f(right())
	is(t, "error of "+what, e, api.OK)
	all := slices.Concat(faults...)
	for i, x := range all {
		for j, y := range all[i:] {
			a := right()
			y.change(&a)
			x.change(&a)
			e, zero := f(a)
			is(t, fmt.Sprint("error of ", what, " with the faults ", i, " and ", i+j), e, x.e)
			is(t, "zero values beside it", zero, true)
		}
	}
}

// factorOf returns that of an hour.
func factorOf(hour int) int {
	switch {
	case hour < 7, hour == 23:
		return 10
	case hour >= 19:
		return 3
	}
	return 1
}

// footprintOf returns the energies of that of a flight, by the definition, also those that are too large.
func footprintOf(s scenario.Scenario, f scenario.Flight) []int {
	var l []int
	at := slices.IndexFunc(s.Types, func(t scenario.Type) bool { return t.Name == f.Type })
	for y := range s.Height {
		for x := range s.Width {
			energy := 0
			for column := range s.Width {
				if column+f.Shift == x {
					energy = s.Types[at].Energies[y*s.Width+column] * factorOf(f.Hour)
				}
			}
			l = append(l, energy)
		}
	}
	return l
}

// plus adds energies to others, times a sign.
func plus(sum, l []int, sign int) {
	for i, n := range l {
		sum[i] += sign * n
	}
}

// mapOf returns the energies of the map of a scenario, by the definition, also those that are too large.
func mapOf(s scenario.Scenario) []int {
	sum := make([]int, s.Width*s.Height)
	for _, f := range s.Flights {
		plus(sum, footprintOf(s, f), 1)
	}
	return sum
}

// asGrid returns the grid with energies, or ErrLarge if one is too large.
func asGrid(s scenario.Scenario, l []int) (contour.Grid, api.Errno) {
	if slices.Max(l) > api.MaxEnergy {
		return contour.Grid{}, api.ErrLarge
	}
	return grid(s.Width, s.Height, l...), api.OK
}

// someEnergies returns those of a type, up to a greatest one; many are 0.
func someEnergies(r *rand.Rand, cells, most int) []int {
	var l []int
	for range cells {
		l = append(l, one(r, 0, r.Intn(most+1), r.Intn(most+1)))
	}
	return l
}

// someFlight returns a flight of one of the types.
func someFlight(r *rand.Rand, name string, types []scenario.Type) scenario.Flight {
	return flight(name, one(r, types...).Name, r.Intn(24), one(r, 0, from(r, -2, 2), from(r, -16, 16)))
}

// someScenario returns one with a size, up to four types and up to n flights; some of the types have the same energies.
func someScenario(r *rand.Rand, width, height, n int) scenario.Scenario {
	s := of(width, height, nil)
	most := one(r, 1, 30, 1000000, 100000000000)
	for i := range from(r, 1, 4) {
		x := kind("t"+strconv.Itoa(i), someEnergies(r, width*height, most)...)
		if i > 0 && r.Intn(4) == 0 {
			x.Energies = slices.Clone(s.Types[i-1].Energies)
		}
		s.Types = append(s.Types, x)
	}
	for i := range r.Intn(n + 1) {
		s.Flights = append(s.Flights, someFlight(r, "f"+strconv.Itoa(i), s.Types))
	}
	return s
}

// anyScenario returns one of any size, with up to n flights.
func anyScenario(r *rand.Rand, n int) scenario.Scenario {
	return someScenario(r, one(r, 1, 2, 3, from(r, 1, 16)), one(r, 1, 2, from(r, 1, 16)), n)
}

// copyOf returns a scenario that shares no memory with another one.
func copyOf(s scenario.Scenario) scenario.Scenario {
	s.Types = slices.Clone(s.Types)
	for i := range s.Types {
		s.Types[i].Energies = slices.Clone(s.Types[i].Energies)
	}
	s.Flights = slices.Clone(s.Flights)
	return s
}

// renamed returns a scenario whose types have other names, in another order; its flights are the same.
func renamed(r *rand.Rand, s scenario.Scenario) scenario.Scenario {
	s = copyOf(s)
	s.Name = "other"
	for i := range s.Types {
		s.Types[i].Name += "x"
	}
	for i := range s.Flights {
		s.Flights[i].Type += "x"
	}
	r.Shuffle(len(s.Types), func(i, j int) { s.Types[i], s.Types[j] = s.Types[j], s.Types[i] })
	r.Shuffle(len(s.Flights), func(i, j int) { s.Flights[i], s.Flights[j] = s.Flights[j], s.Flights[i] })
	return s
}

// altered returns a scenario that has many flights of another one, and some changed ones.
func altered(r *rand.Rand, s scenario.Scenario) scenario.Scenario {
	s = renamed(r, s)
	for range r.Intn(4) {
		at := r.Intn(len(s.Flights) + 1)
		if at == len(s.Flights) {
			s.Types[r.Intn(len(s.Types))].Energies[0] = r.Intn(30)
			continue
		}
		f := &s.Flights[at]
		switch r.Intn(5) {
		case 0:
			f.Hour = r.Intn(24)
		case 1:
			f.Shift = from(r, -2, 2)
		case 2:
			f.Type = one(r, s.Types...).Name
		case 3:
			f.Name += "y"
		case 4:
			s.Flights = slices.Delete(s.Flights, at, at+1)
		}
	}
	return s
}

// someChoices returns up to n choices; many have the same scores.
func someChoices(r *rand.Rand, n int) []scenario.Choice {
	var l []scenario.Choice
	top := one(r, 1, 3, 8, scenario.MaxScore)
	for i := range r.Intn(n + 1) {
		c := choice("c"+strconv.Itoa(i), r.Intn(top+1), r.Intn(top+1), r.Intn(top+1))
		if i > 0 && r.Intn(6) == 0 {
			c.Scores = l[r.Intn(i)].Scores
		}
		l = append(l, c)
	}
	return l
}

// somePairs returns pairs whose correction is neither too large, nor by 0.
func somePairs(r *rand.Rand) []scenario.Pair {
	l := []scenario.Pair{pair(from(r, 1, 50), r.Intn(50))}
	for range from(r, 2, 9) {
		predicted := from(r, 0, one(r, 3, 100, 10000000000))
		l = append(l, pair(predicted, r.Intn(2*predicted+1)))
	}
	return l
}
