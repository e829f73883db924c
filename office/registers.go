package office

import (
	"slices"

	"flyover/api"
	"flyover/check"
	"flyover/list"
)

// none is the index of what is not there, what is heard of a flight that is not matched, and the day of an answer that is not there.
const none = -1

// named is what a register finds by names.
type named interface{ name() string }

func (t Type) name() string      { return t.Name }
func (h House) name() string     { return h.Name }
func (f Flight) name() string    { return f.Name }
func (m Map) name() string       { return m.Name }
func (o Offer) name() string     { return o.Name }
func (c Complaint) name() string { return c.Name }

// at returns the index of what has a name, or none.
func at[T named](l []T, name string) int {
	return slices.IndexFunc(l, func(x T) bool { return x.name() == name })
}

// place is one of the lists of a register: it returns the index of what has a name there, or none.
type place func(r Register, name string) int

func (r Register) typeAt(name string) int      { return at(r.Types, name) }
func (r Register) houseAt(name string) int     { return at(r.Houses, name) }
func (r Register) flightAt(name string) int    { return at(r.Flights, name) }
func (r Register) mapAt(name string) int       { return at(r.Maps, name) }
func (r Register) offerAt(name string) int     { return at(r.Offers, name) }
func (r Register) complaintAt(name string) int { return at(r.Complaints, name) }

// These return what has a name that is there.
func (r Register) kind(name string) Type           { return r.Types[r.typeAt(name)] }
func (r Register) flight(name string) Flight       { return r.Flights[r.flightAt(name)] }
func (r Register) offer(name string) Offer         { return r.Offers[r.offerAt(name)] }
func (r Register) complaint(name string) Complaint { return r.Complaints[r.complaintAt(name)] }

// added returns a copy of a list with a further element.
func added[T any](l []T, x T) []T {
	return append(slices.Clone(l), x)
}

// changed returns a copy of a list with a change of what has a name there.
func changed[T named](l []T, name string, change func(x *T)) []T {
	l = slices.Clone(l)
	change(&l[at(l, name)])
	return l
}

// room returns ErrMany for a list that has as many elements as its limit, or OK.
func room[T any](l []T, limit int) api.Errno {
	return check.That(len(l) < limit, api.ErrMany)
}

func (f Flight) isMatched() bool {
	return f.Heard != none
}

// matched returns the flights of a type that are matched.
func (r Register) matched(kind string) []Flight {
	return list.Filtered(list.Filtered(r.Flights, Flight.isMatched), func(f Flight) bool { return f.Type == kind })
}

// flownOn reports whether there is a flight on a day.
func (r Register) flownOn(day int) bool {
	found := false
search:
	for _, f := range r.Flights {
		switch {
		case f.Day == day:
			found = true
			break search
		case f.Day > day:
			// The days of flights never go back.
			break search
		}
	}
	return found
}

// loud reports whether a house has a level of at least Limit in the last map.
func (r Register) loud(house string) bool {
	if len(r.Maps) == 0 {
		return false
	}
	last, i := r.Maps[len(r.Maps)-1], r.houseAt(house)
	return i < len(last.Levels) && last.Levels[i] >= Limit
}

// offered reports whether a house has an offer.
func (r Register) offered(house string) bool {
	return slices.ContainsFunc(r.Offers, func(o Offer) bool { return o.House == house })
}

func (r Register) isEligible(h House) bool {
	return r.loud(h.Name) && !r.offered(h.Name)
}

func (c Complaint) isAnswered() bool {
	return c.Answered != none
}

// isLate reports whether a complaint is late on a day.
func (c Complaint) isLate(day int) bool {
	last := c.Day + Deadline
	return day > last && (!c.isAnswered() || c.Answered > last)
}
