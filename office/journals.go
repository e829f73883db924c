package office

import (
	"iter"
	"slices"

	"flyover/api"
	"flyover/check"
	"flyover/list"
)

// entry is an event that counts, with the register after it.
type entry struct {
	event
	after Register
}

// journal is events that are accepted, one after the other: how many they are, and those that count.
type journal struct {
	kinds  kinds
	told   int
	counts []entry
}

// register returns that after all events.
func (j journal) register() Register {
	if len(j.counts) == 0 {
		return Register{}
	}
	return j.counts[len(j.counts)-1].after
}

// checkUndo returns the error by which the last event that counts is not undone, or OK.
func (j journal) checkUndo() api.Errno {
	if len(j.counts) == 0 {
		return api.ErrEmpty
	}
	last := j.counts[len(j.counts)-1].Kind
	for _, kind := range final {
		if kind == last {
			return api.ErrRule
		}
	}
	return api.OK
}

// accepts returns the error by which an event is not accepted, or OK.
func (j journal) accepts(e event) api.Errno {
	switch {
	case e.Number != j.told+1:
		return api.ErrOrder
	case e.Kind == undo:
		return j.checkUndo()
	}
	return j.kinds[e.Kind].accepts(j.register(), e)
}

// tell adds an event, or returns its error, or the one by which it is not accepted.
func (j *journal) tell(e event) api.Errno {
	if no := j.kinds.check(e.Event); no != api.OK {
		return no
	}
	if no := j.accepts(e); no != api.OK {
		return no
	}
	j.told++
	if e.Kind == undo {
		j.counts = j.counts[:len(j.counts)-1]
		return api.OK
	}
	j.counts = append(j.counts, entry{e, j.kinds[e.Kind].after(j.register(), e)})
	return api.OK
}

// replayed returns the journal of events, or the number of the first one with an error.
func replayed(l []api.Event) (journal, int, api.Errno) {
	if e := check.AtMost(l, api.MaxEvents); e != api.OK {
		return journal{}, 0, e
	}
	j := journal{kinds: allKinds()}
	for i, e := range l {
		if no := j.tell(event{e}); no != api.OK {
			return journal{}, i + 1, no
		}
	}
	return j, 0, api.OK
}

// Replay returns the register after events, or the number of the first one with an error.
func Replay(l []api.Event) (Register, int, api.Errno) {
	j, number, e := replayed(l)
	return j.register(), number, e
}

// Accepts returns OK for an event that is accepted after events.
func Accepts(l []api.Event, e api.Event) api.Errno {
	j, _, no := replayed(l)
	if no := check.First(no, CheckEvent(e), room(l, api.MaxEvents)); no != api.OK {
		return no
	}
	return j.accepts(event{e})
}

// until visits the events that count and are not after a day.
func (j journal) until(day int) iter.Seq[entry] {
	return func(yield func(entry) bool) {
		for _, x := range j.counts {
			// The days of events that count never go back.
			if x.day() > day || !yield(x) {
				return
			}
		}
	}
}

// AsOf returns the register as of a day.
func AsOf(l []api.Event, day int) (Register, api.Errno) {
	j, _, e := replayed(l)
	if no := check.First(e, checkValue(day)); no != api.OK {
		return Register{}, no
	}
	var r Register
	for x := range j.until(day) {
		r = x.after
	}
	return r, api.OK
}

// Eligible returns the houses that may get an offer.
func Eligible(l []api.Event) ([]string, api.Errno) {
	r, _, e := Replay(l)
	if e != api.OK {
		return nil, e
	}
	return list.Mapped(list.Filtered(r.Houses, r.isEligible), House.name), api.OK
}

// Late returns the complaints that are late on a day.
func Late(l []api.Event, day int) ([]string, api.Errno) {
	r, _, e := Replay(l)
	if no := check.First(e, checkValue(day)); no != api.OK {
		return nil, no
	}
	late := list.Filtered(r.Complaints, func(c Complaint) bool { return c.isLate(day) })
	return list.Mapped(late, Complaint.name), api.OK
}

// find returns the register after events and the index of what has a name in a place, or ErrUnknown.
func find(l []api.Event, in place, name string) (Register, int, api.Errno) {
	r, _, e := Replay(l)
	i := in(r, name)
	if no := check.First(e, check.That(i != none, api.ErrUnknown)); no != api.OK {
		return Register{}, 0, no
	}
	return r, i, api.OK
}

// Matched returns how many flights of a type are matched, and the energies that were heard.
func Matched(l []api.Event, name string) (int, int, api.Errno) {
	r, _, e := find(l, Register.typeAt, name)
	flights := r.matched(name)
	sum := 0
	for _, f := range flights {
		sum += f.Heard
	}
	return len(flights), sum, e
}

// about visits the events that count and are not about other houses than one.
func (j journal) about(house string) iter.Seq[event] {
	return func(yield func(event) bool) {
		for _, x := range j.counts {
			if j.kinds[x.Kind].about(x, house) && !yield(x.event) {
				return
			}
		}
	}
}

// copied returns an event that shares no memory with another one.
func copied(e api.Event) api.Event {
	e.Names = slices.Clone(e.Names)
	e.Values = slices.Clone(e.Values)
	return e
}

// Story returns the events that concern a house.
func Story(l []api.Event, house string) ([]api.Event, api.Errno) {
	j, _, e := replayed(l)
	if no := check.First(e, check.That(j.register().houseAt(house) != none, api.ErrUnknown)); no != api.OK {
		return nil, no
	}
	var story []api.Event
	for x := range j.about(house) {
		x.Number = len(story) + 1
		story = append(story, copied(x.Event))
	}
	return story, api.OK
}
