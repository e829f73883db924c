package night

import (
	"flyover/api"
	"flyover/check"
	"flyover/list"
)

// nightly is a movement in the night, with its night.
type nightly struct {
	Move
	night int
}

func checkDay(n int) api.Errno {
	return check.Within(n, 1, api.MaxDay)
}

// CheckMoves returns the first error of movements, or OK.
func CheckMoves(r Rules, l []Move) api.Errno {
	if e := CheckRules(r); e != api.OK {
		return e
	}
	return check.Named(l, MaxMoves, func(m Move, once check.Once) api.Errno {
		return check.First(
			checkName(m.Flight),
			once(m.Flight),
			checkName(m.Airline),
			r.checkType(m.Type),
			checkDay(m.Day),
			checkMinute(m.Minute),
		)
	})
}

// nightOf returns the night of a minute of the night on a day.
func (r Rules) nightOf(day, minute int) int {
	if overMidnight(r.Night) && minute < r.Night.To {
		return day - 1
	}
	return day
}

// Night returns the night of a minute on a day.
func Night(r Rules, day, minute int) (int, api.Errno) {
	if e := check.First(CheckRules(r), checkDay(day), checkMinute(minute)); e != api.OK {
		return 0, e
	}
	if !within(r.Night, minute) {
		return 0, api.ErrNone
	}
	return r.nightOf(day, minute), api.OK
}

// inNight returns the movements that are in the night.
func (r Rules) inNight(l []Move) []nightly {
	var found []nightly
	for _, m := range l {
		if within(r.Night, m.Minute) {
			found = append(found, nightly{m, r.nightOf(m.Day, m.Minute)})
		}
	}
	return found
}

// count returns that of a movement.
func (r Rules) count(m Move) int {
	if !within(r.Night, m.Minute) {
		return 0
	}
	return r.named(m.Type).Count
}

// Counts returns the quota count of each movement.
func Counts(r Rules, l []Move) ([]int, api.Errno) {
	if e := CheckMoves(r, l); e != api.OK {
		return nil, e
	}
	return list.Mapped(l, r.count), api.OK
}

// Spent returns the quota that is spent in a span of nights.
func Spent(r Rules, l []Move, nights api.Span) (int, api.Errno) {
	if e := check.First(CheckMoves(r, l), check.That(nights.From >= 0 && nights.From <= nights.To, api.ErrSpan)); e != api.OK {
		return 0, e
	}
	sum := 0
	for _, m := range r.inNight(l) {
		if m.night >= nights.From && m.night < nights.To {
			sum += r.named(m.Type).Count
		}
	}
	return sum, api.OK
}

// Left returns the quota that is left after all movements.
func Left(r Rules, l []Move) (int, api.Errno) {
	counts, e := Counts(r, l)
	if e != api.OK {
		return 0, e
	}
	left := r.Quota
	for _, n := range counts {
		left -= n
	}
	return left, api.OK
}

// fee returns that of a movement.
func (r Rules) fee(m Move) int {
	fee := r.named(m.Type).Fee
	if within(r.Night, m.Minute) {
		return 2 * fee
	}
	return fee
}

// Fees returns the fee of each movement.
func Fees(r Rules, l []Move) ([]int, api.Errno) {
	if e := CheckMoves(r, l); e != api.OK {
		return nil, e
	}
	return list.Mapped(l, r.fee), api.OK
}

// respite returns that of a night.
func (r Rules) respite(l []Move, night int) api.Span {
	var taken [Day]bool
	for _, m := range r.inNight(l) {
		if m.night == night {
			taken[m.Minute] = true
		}
	}
	// The free span that goes on at an offset is the zero span where there is none.
	var free, longest api.Span
	for at, minute := range minutes(r.Night) {
		switch {
		case taken[minute]:
			free = api.Span{}
		case free == api.Span{}:
			free = api.Span{From: at, To: at + 1}
		default:
			free.To++
		}
		if free.To-free.From > longest.To-longest.From {
			longest = free
		}
	}
	return longest
}

// Respite returns the longest span of a night without a movement.
func Respite(r Rules, l []Move, night int) (api.Span, api.Errno) {
	if e := check.First(CheckMoves(r, l), check.Within(night, 0, api.MaxDay)); e != api.OK {
		return api.Span{}, e
	}
	return r.respite(l, night), api.OK
}
