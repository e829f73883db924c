package night

import (
	"slices"

	"flyover/api"
	"flyover/check"
	"flyover/sound"
)

// missing is the reason of a case whose flight has no exception.
const missing = "none"

// filed is an exception for a movement.
type filed struct {
	Exception
	move Move
}

// faults returns those of exceptions.
func (r Rules) faults() []check.Fault[filed, string] {
	return []check.Fault[filed, string]{
		{Tell: "reason", Holds: func(x filed) bool { return !slices.Contains(r.Reasons, x.Reason) }},
		{Tell: "early", Holds: func(x filed) bool { return x.Day < x.move.Day }},
		{Tell: "late", Holds: func(x filed) bool { return x.Day > x.move.Day+r.Deadline }},
		{Tell: "evidence", Holds: func(x filed) bool { return x.Evidence != r.evidence(x.Flight, x.Reason) }},
	}
}

// byFlight returns movements by their flights.
func byFlight(l []Move) map[string]Move {
	moves := make(map[string]Move, len(l))
	for _, m := range l {
		moves[m.Flight] = m
	}
	return moves
}

// CheckExceptions returns the first error of exceptions, or OK.
func CheckExceptions(r Rules, l []Move, x []Exception) api.Errno {
	if e := CheckMoves(r, l); e != api.OK {
		return e
	}
	moves := byFlight(l)
	return check.Named(x, MaxMoves, func(y Exception, once check.Once) api.Errno {
		_, known := moves[y.Flight]
		return check.First(
			check.That(known, api.ErrUnknown),
			once(y.Flight),
			checkName(y.Reason),
			check.Within(y.Day, 0, api.MaxDay),
		)
	})
}

// Valid returns what is wrong with an exception, or the empty string if it is valid.
func Valid(r Rules, l []Move, x Exception) (string, api.Errno) {
	if e := CheckExceptions(r, l, []Exception{x}); e != api.OK {
		return "", e
	}
	return check.Wrong(filed{x, byFlight(l)[x.Flight]}, r.faults()), api.OK
}

// evidence returns that for a flight and a reason.
func (r Rules) evidence(flight, reason string) api.Key {
	// Two names are never too long for a seal.
	key, _ := sound.Seal(r.Key, []byte(flight+" "+reason))
	return key
}

// Evidence returns the evidence for a flight and a reason.
func Evidence(r Rules, flight, reason string) (api.Key, api.Errno) {
	if e := check.First(CheckRules(r), checkName(flight), checkName(reason)); e != api.OK {
		return api.Key{}, e
	}
	return r.evidence(flight, reason), api.OK
}

// cases returns those of movements.
func (r Rules) cases(l []Move, x []Exception) []Case {
	var found []Case
search:
	for _, m := range l {
		if !within(r.Curfew, m.Minute) {
			continue
		}
		reason := missing
		for _, y := range x {
			if y.Flight != m.Flight {
				continue
			}
			reason = check.Wrong(filed{y, m}, r.faults())
			if reason == "" {
				continue search
			}
		}
		found = append(found, Case{Flight: m.Flight, Reason: reason, Fine: r.Fine})
	}
	return found
}

// Cases returns the cases of all movements.
func Cases(r Rules, l []Move, x []Exception) ([]Case, api.Errno) {
	if e := CheckExceptions(r, l, x); e != api.OK {
		return nil, e
	}
	return r.cases(l, x), api.OK
}

// Bill returns what an airline pays.
func Bill(r Rules, l []Move, x []Exception, airline string) (int, api.Errno) {
	if e := check.First(CheckExceptions(r, l, x), checkName(airline)); e != api.OK {
		return 0, e
	}
	own := slices.DeleteFunc(slices.Clone(l), func(m Move) bool { return m.Airline != airline })
	sum := 0
	for _, m := range own {
		sum += r.fee(m)
	}
	for _, c := range r.cases(own, x) {
		sum += c.Fine
	}
	return sum, api.OK
}
