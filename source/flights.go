package source

import (
	"cmp"
	"slices"

	"flyover/api"
	"flyover/check"
	"flyover/list"
)

// loud is a flight with its exposure.
type loud struct {
	Flight
	exposure int
}

// compare says which of two flights has the greater exposure.
func (a loud) compare(b loud) int {
	return cmp.Compare(a.exposure, b.exposure)
}

// named returns types by their names, or the first error of types.
func named(types []Type) (map[string]Type, api.Errno) {
	if e := check.AtMost(types, MaxTypes); e != api.OK {
		return nil, e
	}
	known := make(map[string]Type, len(types))
	for _, t := range types {
		if e := CheckType(t); e != api.OK {
			return nil, e
		}
		if _, twice := known[t.Name]; twice {
			return nil, api.ErrTwice
		}
		known[t.Name] = t
	}
	return known, api.OK
}

// checkListed returns the first error of flights with types that are known, or OK.
func checkListed(known map[string]Type, l []Flight) api.Errno {
	return check.Named(l, MaxFlights, func(f Flight, once check.Once) api.Errno {
		_, ok := known[f.Type]
		return check.First(checkName(f.Name), once(f.Name), check.That(ok, api.ErrUnknown), CheckTrack(f.Track))
	})
}

// CheckFlights returns the first error of types and flights, or OK.
func CheckFlights(types []Type, l []Flight) api.Errno {
	known, e := named(types)
	if e != api.OK {
		return e
	}
	return checkListed(known, l)
}

// exposed returns flights with their exposures over all of their tracks, or the first error.
func exposed(types []Type, l []Flight, receiver api.Vector) ([]loud, api.Errno) {
	known, e := named(types)
	if e != api.OK {
		return nil, e
	}
	if e := check.First(checkListed(known, l), checkPlace(receiver)); e != api.OK {
		return nil, e
	}
	always := api.Span{To: api.MaxTick}
	return list.Mapped(l, func(f Flight) loud {
		return loud{f, known[f.Type].exposure(f.Track, always, receiver)}
	}), api.OK
}

// Total returns the total of a receiver.
func Total(types []Type, l []Flight, receiver api.Vector) (int, api.Errno) {
	flights, e := exposed(types, l, receiver)
	if e != api.OK {
		return 0, e
	}
	sum := 0
	for _, f := range flights {
		sum += f.exposure
	}
	return sum, api.OK
}

// Parts returns the exposures to all flights.
func Parts(types []Type, l []Flight, receiver api.Vector) ([]int, api.Errno) {
	flights, e := exposed(types, l, receiver)
	if e != api.OK {
		return nil, e
	}
	return list.Mapped(flights, func(f loud) int { return f.exposure }), api.OK
}

// Loudest returns the name of the flight with the greatest exposure.
func Loudest(types []Type, l []Flight, receiver api.Vector) (string, api.Errno) {
	flights, e := exposed(types, l, receiver)
	if e != api.OK {
		return "", e
	}
	if len(flights) == 0 {
		return "", api.ErrEmpty
	}
	// Of several greatest elements MaxFunc returns the first one.
	return slices.MaxFunc(flights, loud.compare).Name, api.OK
}
