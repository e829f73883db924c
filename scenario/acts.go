package scenario

import (
	"slices"

	"flyover/api"
	"flyover/check"
	"flyover/list"
)

// act is what can be done to a scenario: the first error that it has for one, and how it changes a copy.
type act struct {
	check  func(s Scenario) api.Errno
	change func(s *Scenario)
}

// copied returns a type that shares no memory with another one.
func (t Type) copied() Type {
	t.Energies = slices.Clone(t.Energies)
	return t
}

// copied returns a scenario that shares no memory with another one.
func (s Scenario) copied() Scenario {
	s.Types = list.Mapped(s.Types, Type.copied)
	s.Flights = slices.Clone(s.Flights)
	return s
}

// on returns a scenario after an act.
func (a act) on(s Scenario) (Scenario, api.Errno) {
	if e := CheckScenario(s); e != api.OK {
		return Scenario{}, e
	}
	if e := a.check(s); e != api.OK {
		return Scenario{}, e
	}
	changed := s.copied()
	a.change(&changed)
	return changed, api.OK
}

// With returns a scenario with a further flight.
func With(s Scenario, f Flight) (Scenario, api.Errno) {
	return act{
		check: func(s Scenario) api.Errno {
			// The errors of the flight itself come before that of one flight too many.
			s.Flights = append(slices.Clone(s.Flights), f)
			return check.First(s.checkFlights(MaxFlights+1), check.AtMost(s.Flights, MaxFlights))
		},
		change: func(s *Scenario) { s.Flights = append(s.Flights, f) },
	}.on(s)
}

// Without returns a scenario without a flight.
func Without(s Scenario, flight string) (Scenario, api.Errno) {
	return act{
		check: func(s Scenario) api.Errno { return s.checkFlight(flight) },
		change: func(s *Scenario) {
			at := s.index(flight)
			s.Flights = slices.Delete(s.Flights, at, at+1)
		},
	}.on(s)
}

// Replaced returns a scenario with a type that is replaced.
func Replaced(s Scenario, kind string, energies []int) (Scenario, api.Errno) {
	return act{
		check: func(s Scenario) api.Errno {
			return check.First(s.places().check(kind), s.checkEnergies(energies))
		},
		change: func(s *Scenario) { s.Types[s.places()[kind]].Energies = slices.Clone(energies) },
	}.on(s)
}

// Displaced returns a scenario with a flight that is displaced.
func Displaced(s Scenario, flight string, hour, shift int) (Scenario, api.Errno) {
	return act{
		check: func(s Scenario) api.Errno {
			return check.First(s.checkFlight(flight), hours.check(hour), shifts.check(shift))
		},
		change: func(s *Scenario) {
			f := &s.Flights[s.index(flight)]
			f.Hour, f.Shift = hour, shift
		},
	}.on(s)
}

// between reports whether an hour is from one on, before another one.
func between(hour, from, to int) bool {
	if from > to {
		return hour >= from || hour < to
	}
	return hour >= from && hour < to
}

// Banned returns a scenario without the flights of some hours.
func Banned(s Scenario, from, to int) (Scenario, api.Errno) {
	return act{
		check: func(Scenario) api.Errno {
			return check.First(hours.check(from), hours.check(to), check.That(from != to, api.ErrConflict))
		},
		change: func(s *Scenario) {
			s.Flights = slices.DeleteFunc(s.Flights, func(f Flight) bool { return between(f.Hour, from, to) })
		},
	}.on(s)
}
