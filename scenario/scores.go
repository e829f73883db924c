package scenario

import (
	"slices"

	"flyover/api"
	"flyover/check"
	"flyover/contour"
	"flyover/list"
	"flyover/number"
	"flyover/sound"
)

func (p Pair) check() api.Errno {
	return check.First(sound.CheckEnergy(p.Predicted), sound.CheckEnergy(p.Measured))
}

// Correction returns the correction by pairs.
func Correction(l []Pair) (int, api.Errno) {
	e := check.First(
		check.AtMost(l, MaxPairs),
		check.Each(l, Pair.check),
		check.That(len(l) >= MinPairs, api.ErrShort),
	)
	if e != api.OK {
		return 0, e
	}
	var sum Pair
	for _, p := range l {
		sum.Predicted += p.Predicted
		sum.Measured += p.Measured
	}
	if sum.Predicted == 0 {
		return 0, api.ErrZero
	}
	n := number.Nearest(Whole*sum.Measured, sum.Predicted)
	if n > MaxFactor {
		return 0, api.ErrLarge
	}
	return n, api.OK
}

// Corrected returns a scenario with a type that is corrected.
func Corrected(s Scenario, kind string, l []Pair) (Scenario, api.Errno) {
	kinds := s.places()
	if e := check.First(CheckScenario(s), kinds.check(kind)); e != api.OK {
		return Scenario{}, e
	}
	correction, e := Correction(l)
	if e != api.OK {
		return Scenario{}, e
	}
	energies := list.Mapped(s.Types[kinds[kind]].Energies, func(n int) int { return number.Nearest(n*correction, Whole) })
	if slices.Max(energies) > api.MaxEnergy {
		return Scenario{}, api.ErrLarge
	}
	return Replaced(s, kind, energies)
}

// exposed returns how many people are within a level by a map.
func exposed(g contour.Grid, people []int, level int) int {
	exactly := func(n int) api.Interval { return api.Interval{Low: n, High: n} }
	sum, _ := contour.Exposed(g, list.Mapped(people, exactly), level)
	return sum.Low
}

// factors returns the sum of those of the hours of all flights.
func (s Scenario) factors() int {
	sum, _ := sound.Penalized(list.Mapped(s.Flights, func(f Flight) sound.Heard { return f.heard(1) }))
	return sum
}

// Scored returns the scores of a scenario.
func Scored(s Scenario, people []int, level int) ([3]int, api.Errno) {
	e := check.First(
		CheckScenario(s),
		check.That(len(people) == s.cells(), api.ErrShape),
		check.Each(people, persons.check),
		levels.check(level),
	)
	if e != api.OK {
		return [3]int{}, e
	}
	g, e := s.whole()
	if e != api.OK {
		return [3]int{}, e
	}
	return [3]int{exposed(g, people, level), s.factors(), MaxFlights - len(s.Flights)}, api.OK
}
