package scenario

import (
	"iter"
	"slices"

	"flyover/api"
	"flyover/check"
	"flyover/contour"
	"flyover/list"
	"flyover/sound"
)

// perHour is how many ticks an hour has.
const perHour = sound.Day / 24

// flown is a flight with the footprint of its type.
type flown struct {
	Flight
	footprint []int
}

// heard returns an energy as it is heard in the hour of a flight.
func (f Flight) heard(energy int) sound.Heard {
	return sound.Heard{Tick: f.Hour * perHour, Energy: energy}
}

// at returns what is heard of a flight in the cell with an index, on a grid with a width.
func (x flown) at(cell, width int) sound.Heard {
	if column := cell%width - x.Shift; column < 0 || column >= width {
		return x.heard(0)
	}
	return x.heard(x.footprint[cell-x.Shift])
}

// flightsOf visits those of a type.
func (s Scenario) flightsOf(t Type) iter.Seq[flown] {
	return func(yield func(flown) bool) {
		for _, f := range s.Flights {
			if f.Type == t.Name && !yield(flown{f, t.Energies}) {
				return
			}
		}
	}
}

// flown returns all flights by their names.
func (s Scenario) flown() map[string]flown {
	all := map[string]flown{}
	for _, t := range s.Types {
		for x := range s.flightsOf(t) {
			all[x.Name] = x
		}
	}
	return all
}

// sum returns that of the footprints of flights, or ErrLarge.
func (s Scenario) sum(l []flown) (contour.Grid, api.Errno) {
	g := contour.Grid{Width: s.Width, Height: s.Height}
	for cell := range s.cells() {
		// What is heard is penalized just as the factors of the hours say.
		energy, e := sound.Penalized(list.Mapped(l, func(x flown) sound.Heard { return x.at(cell, s.Width) }))
		if e != api.OK {
			return contour.Grid{}, e
		}
		g.Energies = append(g.Energies, energy)
	}
	return g, api.OK
}

// Footprint returns the footprint of a flight.
func Footprint(s Scenario, flight string) (contour.Grid, api.Errno) {
	if e := check.First(CheckScenario(s), s.checkFlight(flight)); e != api.OK {
		return contour.Grid{}, e
	}
	return s.sum([]flown{s.flown()[flight]})
}

// whole returns the map of a scenario, or ErrLarge.
func (s Scenario) whole() (contour.Grid, api.Errno) {
	all := s.flown()
	return s.sum(list.Mapped(s.Flights, func(f Flight) flown { return all[f.Name] }))
}

// Map returns the map of a scenario.
func Map(s Scenario) (contour.Grid, api.Errno) {
	if e := CheckScenario(s); e != api.OK {
		return contour.Grid{}, e
	}
	return s.whole()
}

// untyped returns a flight without its type.
func (f Flight) untyped() Flight {
	f.Type = ""
	return f
}

// same reports whether two flights are one that is common.
func (x flown) same(y flown) bool {
	return x.untyped() == y.untyped() && slices.Equal(x.footprint, y.footprint)
}

// checkBoth returns the first error of two scenarios of one size, or OK.
func checkBoth(a, b Scenario) api.Errno {
	return check.First(
		CheckScenario(a),
		CheckScenario(b),
		check.That(a.size() == b.size(), api.ErrShape),
	)
}

// beside returns the names of the flights that are common with another scenario, or of all others.
func (s Scenario) beside(other Scenario, common bool) []string {
	own, others := s.flown(), other.flown()
	var names []string
	for _, f := range s.Flights {
		// Where the other scenario has no flight of this name, what it has is without a name.
		if own[f.Name].same(others[f.Name]) == common {
			names = append(names, f.Name)
		}
	}
	return names
}

// Common returns the flights that two scenarios have in common.
func Common(a, b Scenario) ([]string, api.Errno) {
	if e := checkBoth(a, b); e != api.OK {
		return nil, e
	}
	return a.beside(b, true), api.OK
}

// Only returns the flights that the first scenario alone has.
func Only(a, b Scenario) ([]string, api.Errno) {
	if e := checkBoth(a, b); e != api.OK {
		return nil, e
	}
	return a.beside(b, false), api.OK
}

// Same reports whether two scenarios are the same.
func Same(a, b Scenario) (bool, api.Errno) {
	if e := checkBoth(a, b); e != api.OK {
		return false, e
	}
	return len(a.beside(b, false)) == 0 && len(b.beside(a, false)) == 0, api.OK
}

// Change returns the change from one scenario to another one.
func Change(a, b Scenario) ([]int, api.Errno) {
	if e := checkBoth(a, b); e != api.OK {
		return nil, e
	}
	before, e := a.whole()
	after, no := b.whole()
	if e := check.First(e, no); e != api.OK {
		return nil, e
	}
	change := after.Energies
	for cell, energy := range before.Energies {
		change[cell] -= energy
	}
	return change, api.OK
}
