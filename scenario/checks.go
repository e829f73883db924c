package scenario

import (
	"slices"

	"flyover/api"
	"flyover/check"
	"flyover/contour"
	"flyover/sound"
)

// quantity is what has a least and a greatest number: the index of both in limits.
type quantity int

const (
	sides quantity = iota
	hours
	shifts
	persons
	levels
	scores
	weights
)

// limits has the least and the greatest number of each quantity, in their order.
var limits = [7]api.Interval{
	{Low: 1, High: contour.MaxSide},
	{Low: 0, High: 23},
	{Low: -MaxShift, High: MaxShift},
	{Low: 0, High: contour.MaxPeople},
	{Low: 0, High: api.MaxLevel},
	{Low: 0, High: MaxScore},
	{Low: 0, High: MaxWeight},
}

// check returns ErrRange for a number that is not within the limits of a quantity, or OK.
func (q quantity) check(n int) api.Errno {
	return check.Within(n, limits[q].Low, limits[q].High)
}

func checkName(s string) api.Errno {
	return check.That(sound.IsName(s), api.ErrName)
}

// cells returns how many the grid of a scenario has.
func (s Scenario) cells() int {
	return s.Width * s.Height
}

// size returns the width and the height of a scenario.
func (s Scenario) size() [2]int {
	return [2]int{s.Width, s.Height}
}

// places are the indices of types by their names.
type places map[string]int

// places returns those of the types of a scenario.
func (s Scenario) places() places {
	p := places{}
	for i, t := range s.Types {
		p[t.Name] = i
	}
	return p
}

// check returns ErrUnknown for a name that no type has, or OK.
func (p places) check(name string) api.Errno {
	_, known := p[name]
	return check.That(known, api.ErrUnknown)
}

// checkEnergies returns the first error of the energies of a type, or OK.
func (s Scenario) checkEnergies(l []int) api.Errno {
	return check.First(
		check.That(len(l) == s.cells(), api.ErrShape),
		check.Each(l, sound.CheckEnergy),
	)
}

// checkTypes returns the first error of the types of a scenario, or OK.
func (s Scenario) checkTypes() api.Errno {
	return check.Named(s.Types, MaxTypes, func(t Type, once check.Once) api.Errno {
		return check.First(checkName(t.Name), once(t.Name), s.checkEnergies(t.Energies))
	})
}

// checkFlights returns the first error of the flights of a scenario that may have so many of them, or OK.
func (s Scenario) checkFlights(limit int) api.Errno {
	kinds := s.places()
	return check.Named(s.Flights, limit, func(f Flight, once check.Once) api.Errno {
		return check.First(
			checkName(f.Name),
			once(f.Name),
			kinds.check(f.Type),
			hours.check(f.Hour),
			shifts.check(f.Shift),
		)
	})
}

// CheckScenario returns the first error of a scenario, or OK.
func CheckScenario(s Scenario) api.Errno {
	return check.First(
		checkName(s.Name),
		sides.check(s.Width),
		sides.check(s.Height),
		s.checkTypes(),
		s.checkFlights(MaxFlights),
	)
}

// index returns that of the flight with a name, or -1 if there is none.
func (s Scenario) index(flight string) int {
	return slices.IndexFunc(s.Flights, func(f Flight) bool { return f.Name == flight })
}

// checkFlight returns ErrUnknown for a name that no flight has, or OK.
func (s Scenario) checkFlight(name string) api.Errno {
	return check.Index(s.Flights, s.index(name))
}
