package scenario_test

import (
	"fmt"
	"slices"
	"testing"

	"flyover/api"
	"flyover/scenario"
)

// energiesOf returns those of the map of a scenario without an error.
func energiesOf(t *testing.T, s scenario.Scenario) []int {
	t.Helper()
	g, e := scenario.Map(s)
	is(t, fmt.Sprint("error of Map of ", s), e, api.OK)
	return g.Energies
}

// footprintIn returns the energies of that of a flight without an error.
func footprintIn(t *testing.T, s scenario.Scenario, flight string) []int {
	t.Helper()
	g, e := scenario.Footprint(s, flight)
	is(t, fmt.Sprint("error of Footprint of ", flight, s), e, api.OK)
	return g.Energies
}

// P9.6, P10: a map is the sum of the footprints of its flights, in any order.
func TestMapsAreSums(t *testing.T) {
	r := seeded()
	for range 500 {
		s := anyScenario(r, 12)
		sum := make([]int, s.Width*s.Height)
		for _, f := range s.Flights {
			plus(sum, footprintIn(t, s, f.Name), 1)
		}
		are(t, fmt.Sprint("Map of ", s), energiesOf(t, s), sum)
		r.Shuffle(len(s.Flights), func(i, j int) { s.Flights[i], s.Flights[j] = s.Flights[j], s.Flights[i] })
		are(t, fmt.Sprint("Map in another order of ", s), energiesOf(t, s), sum)
	}
}

// P9.6, P10: scenarios that are the same have the same maps, and no change.
func TestTheSameHaveTheSameMaps(t *testing.T) {
	r := seeded()
	others := 0
	for range 2000 {
		a := anyScenario(r, 6)
		b := one(r, renamed(r, a), altered(r, a))
		same, e := scenario.Same(a, b)
		is(t, "error of Same", e, api.OK)
		back, _ := scenario.Same(b, a)
		is(t, fmt.Sprint("Same in both directions of ", a, b), back, same)
		own, _ := scenario.Same(a, a)
		is(t, "Same of one scenario", own, true)
		if !same {
			others++
			continue
		}
		are(t, fmt.Sprint("the maps of ", a, b), energiesOf(t, a), energiesOf(t, b))
		change, e := scenario.Change(a, b)
		are(t, fmt.Sprint("Change of ", a, b), change, make([]int, a.Width*a.Height))
		is(t, "error of Change", e, api.OK)
	}
	is(t, fmt.Sprint("many are the same, and many are not: ", others), others > 300 && others < 1700, true)
	b := renamed(r, airport())
	same, _ := scenario.Same(airport(), b)
	is(t, "Same of types with other names", same, true)
}

// P9.6: a change is the sum of the footprints of the flights that the second scenario alone has, less those that the first one alone has.
func TestChangesAreOfFlightsNotInCommon(t *testing.T) {
	r := seeded()
	some := 0
	for range 1000 {
		a := anyScenario(r, 8)
		b := altered(r, a)
		want := make([]int, a.Width*a.Height)
		gone, _ := scenario.Only(a, b)
		for _, name := range gone {
			plus(want, footprintIn(t, a, name), -1)
		}
		come, _ := scenario.Only(b, a)
		for _, name := range come {
			plus(want, footprintIn(t, b, name), 1)
		}
		change, e := scenario.Change(a, b)
		are(t, fmt.Sprint("Change of ", a, b), change, want)
		is(t, "error of Change", e, api.OK)
		common, _ := scenario.Common(a, b)
		is(t, "each flight is common, or not", len(common)+len(gone), len(a.Flights))
		if len(common) > 0 && len(gone) > 0 && len(come) > 0 {
			some++
		}
	}
	is(t, fmt.Sprint("some have both: ", some), some > 100, true)
}

// P9.6: a flight that is added and taken away changes nothing.
func TestAddedAndTakenAway(t *testing.T) {
	r := seeded()
	for range 500 {
		s := anyScenario(r, 8)
		f := someFlight(r, "new", s.Types)
		more, e := scenario.With(s, f)
		is(t, "error of With", e, api.OK)
		sum := energiesOf(t, s)
		plus(sum, footprintIn(t, more, "new"), 1)
		are(t, "the map with the flight", energiesOf(t, more), sum)
		back, e := scenario.Without(more, "new")
		isScenario(t, "Without the flight", back, s)
		is(t, "error of Without", e, api.OK)
	}
}

// P9.6: a ban and the opposite ban together leave each flight in just one of both.
func TestOppositeBans(t *testing.T) {
	r := seeded()
	both := 0
	for range 1000 {
		s := anyScenario(r, 8)
		hours := r.Perm(24)
		a, e := scenario.Banned(s, hours[0], hours[1])
		is(t, "error of Banned", e, api.OK)
		b, e := scenario.Banned(s, hours[1], hours[0])
		is(t, "error of Banned", e, api.OK)
		for _, f := range s.Flights {
			is(t, fmt.Sprint(f, " is in just one of ", hours[:2], a, b), slices.Contains(a.Flights, f) != slices.Contains(b.Flights, f), true)
		}
		is(t, "all flights", len(a.Flights)+len(b.Flights), len(s.Flights))
		sum := energiesOf(t, a)
		plus(sum, energiesOf(t, b), 1)
		are(t, "the map of both", sum, energiesOf(t, s))
		if len(a.Flights) > 0 && len(b.Flights) > 0 {
			both++
		}
	}
	is(t, fmt.Sprint("many have flights in both: ", both), both > 300, true)
}

// P9.6: pairs of which each one measures what was predicted correct nothing.
func TestNothingIsCorrected(t *testing.T) {
	r := seeded()
	for range 500 {
		s := anyScenario(r, 8)
		l := somePairs(r)
		for i := range l {
			l[i].Measured = l[i].Predicted
		}
		n, e := scenario.Correction(l)
		is(t, fmt.Sprint("Correction of ", l), n, scenario.Whole)
		is(t, "error of Correction", e, api.OK)
		got, e := scenario.Corrected(s, one(r, s.Types...).Name, l)
		isScenario(t, "Corrected", got, s)
		is(t, "error of Corrected", e, api.OK)
	}
}

// P9.6, P10: a correction changes the flights of its type and no others.
func TestCorrectionsChangeTheirType(t *testing.T) {
	r := seeded()
	touched, left := 0, 0
	for range 1000 {
		s := anyScenario(r, 8)
		// Each energy is another one after this correction.
		for i := range s.Types {
			for k := range s.Types[i].Energies {
				s.Types[i].Energies[k] += 10
			}
		}
		name := one(r, s.Types...).Name
		l := slices.Repeat([]scenario.Pair{pair(10, from(r, 11, 40))}, 3)
		got, e := scenario.Corrected(s, name, l)
		is(t, "error of Corrected", e, api.OK)
		common, e := scenario.Common(s, got)
		is(t, "error of Common", e, api.OK)
		for _, f := range s.Flights {
			own := f.Type == name
			is(t, fmt.Sprint(f, " is changed: ", s, got), slices.Contains(common, f.Name), !own)
			before, after := footprintIn(t, s, f.Name), footprintIn(t, got, f.Name)
			if !own {
				are(t, fmt.Sprint("the footprint of ", f), after, before)
				left++
				continue
			}
			touched++
			heard := slices.ContainsFunc(before, func(n int) bool { return n > 0 })
			is(t, fmt.Sprint("another footprint of ", f), slices.Equal(after, before), !heard)
		}
		are(t, "the flights", got.Flights, s.Flights)
	}
	is(t, fmt.Sprint("many are changed, and many are not: ", touched, left), touched > 500 && left > 500, true)
}

// P9.6: each choice is in the front, or a choice in the front dominates it, and dominators prove it.
func TestFrontsDominate(t *testing.T) {
	r := seeded()
	behind := 0
	for range 2000 {
		l := someChoices(r, 16)
		what := fmt.Sprint(" of ", l)
		front, e := scenario.Front(l)
		is(t, "error of Front"+what, e, api.OK)
		by, e := scenario.Dominators(l)
		is(t, "error of Dominators"+what, e, api.OK)
		is(t, "CheckFront"+what, scenario.CheckFront(l, by), api.OK)
		for i, c := range l {
			in := slices.Contains(front, i)
			is(t, fmt.Sprint(i, " has no dominator", what), by[i] == scenario.None, in)
			if in {
				continue
			}
			behind++
			is(t, fmt.Sprint("the dominator of ", i, " is in the front", what), slices.Contains(front, by[i]), true)
			is(t, fmt.Sprint("the dominator of ", i, " dominates", what), dominates(l[by[i]], c), true)
		}
		// Other dominators that prove a front prove the same one.
		for range 5 {
			other := make([]int, len(l))
			for i := range other {
				other[i] = scenario.None
				if r.Intn(2) == 0 || !slices.Contains(front, i) {
					other[i] = one(r, append(slices.Clone(front), scenario.None)...)
				}
			}
			if scenario.CheckFront(l, other) == api.OK {
				for i, j := range other {
					is(t, fmt.Sprint("proven by ", other, what), j == scenario.None, slices.Contains(front, i))
				}
			}
		}
	}
	is(t, fmt.Sprint("many are not in the front: ", behind), behind > 2000, true)
}

// P9.6: the best choice by weights that are all above 0 is in the front.
func TestTheBestIsInTheFront(t *testing.T) {
	r := seeded()
	for range 3000 {
		l := append(someChoices(r, 15), choice("last", r.Intn(8), r.Intn(8), r.Intn(8)))
		weights := [3]int{from(r, 1, 3), one(r, 1, 1000), from(r, 1, 1000)}
		rank, e := scenario.Ranked(l, weights)
		is(t, "error of Ranked", e, api.OK)
		front, e := scenario.Front(l)
		is(t, "error of Front", e, api.OK)
		is(t, fmt.Sprint("the best one of ", l, weights), slices.Contains(front, rank[0]), true)
		slices.Sort(rank)
		for i := range l {
			is(t, "each choice is ranked once", rank[i], i)
		}
	}
}

// P9.6: scenarios are parsed as they were printed, and strings are printed as they were parsed.
func TestPrintAndParse(t *testing.T) {
	r := seeded()
	parsed, long := 0, 0
	for range 3000 {
		s := anyScenario(r, 12)
		l, e := scenario.Print(s)
		if e == api.ErrLong {
			long++
			continue
		}
		is(t, "error of Print", e, api.OK)
		back, at, e := scenario.Parse(l)
		isScenario(t, "Parse of Print", back, s)
		is(t, "index of Parse of Print", at, 0)
		is(t, "error of Parse of Print", e, api.OK)
		b := []byte(l)
		b[r.Intn(len(b))] = "\n 0129-tf\xff"[r.Intn(10)]
		changed, _, e := scenario.Parse(string(b))
		if e != api.OK {
			is(t, "nothing beside the error", isNothing(changed), true)
			continue
		}
		parsed++
		again, e := scenario.Print(changed)
		is(t, "error of Print of Parse", e, api.OK)
		is(t, "Print of Parse", again, string(b))
	}
	is(t, fmt.Sprint("many are parsed, and few are too long: ", parsed, long), parsed > 300 && long < 300, true)
}
