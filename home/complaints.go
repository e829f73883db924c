package home

import (
	"slices"

	"flyover/api"
	"flyover/check"
)

func checkTick(n int) api.Errno {
	return check.Within(n, 0, api.MaxTick)
}

// checkWindow returns ErrRange for what is not a window of ticks, a before, an after or a deadline, or OK.
func checkWindow(n int) api.Errno {
	return check.Within(n, 0, MaxWindow)
}

func (c Complaint) check() api.Errno {
	return check.First(checkName(c.Home), checkTick(c.Tick))
}

// checkComplaints returns the first error of complaints, or OK.
func checkComplaints(l []Complaint) api.Errno {
	if e := check.AtMost(l, MaxComplaints); e != api.OK {
		return e
	}
	before := 0
	return check.Each(l, func(c Complaint) api.Errno {
		ordered := c.Tick >= before
		before = c.Tick
		return check.First(c.check(), check.That(ordered, api.ErrOrder))
	})
}

// counted returns the indices of the complaints that are counted under a window.
func counted(l []Complaint, window int) []int {
	var indices []int
	last := map[string]int{}
	for i, c := range l {
		// Ticks never go back: no complaint of the home that is counted is nearer than the last one.
		if tick, ok := last[c.Home]; ok && c.Tick-tick <= window {
			continue
		}
		last[c.Home] = c.Tick
		indices = append(indices, i)
	}
	return indices
}

// Counted returns the indices of the complaints that are counted.
func Counted(l []Complaint, window int) ([]int, api.Errno) {
	if e := check.First(checkComplaints(l), checkWindow(window)); e != api.OK {
		return nil, e
	}
	return counted(l, window), api.OK
}

// checkFlights returns the first error of flights, or OK.
func checkFlights(l []api.Span) api.Errno {
	if e := check.AtMost(l, MaxSpans); e != api.OK {
		return e
	}
	return check.Each(l, func(x api.Span) api.Errno { return check.Span(x, api.MaxTick) })
}

// Tied returns the indices of the flights to which a complaint is tied.
func Tied(c Complaint, flights []api.Span, before, after int) ([]int, api.Errno) {
	if e := check.First(c.check(), checkFlights(flights), checkWindow(before), checkWindow(after)); e != api.OK {
		return nil, e
	}
	var tied []int
	for i, x := range flights {
		if x.From <= c.Tick+after && x.To > c.Tick-before {
			tied = append(tied, i)
		}
	}
	return tied, api.OK
}

// Due returns the indices of the complaints that are due.
func Due(l []Complaint, window int, answered []int, tick, deadline int) ([]int, api.Errno) {
	if e := check.First(checkComplaints(l), checkWindow(window), checkIndices(l, answered), checkTick(tick), checkWindow(deadline)); e != api.OK {
		return nil, e
	}
	return slices.DeleteFunc(counted(l, window), func(i int) bool {
		return slices.Contains(answered, i) || l[i].Tick+deadline >= tick
	}), api.OK
}
