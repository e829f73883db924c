package monitor

import (
	"iter"
	"slices"

	"flyover/api"
	"flyover/check"
	"flyover/list"
)

func (x Rule) check() api.Errno {
	return check.First(
		check.Within(x.Threshold, 1, api.MaxEnergy),
		check.Within(x.Gap, 0, MaxGap),
		check.Within(x.Least, 1, MaxSeconds),
	)
}

// loud visits the seconds of a record that are loud.
func loud(r []int, threshold int) iter.Seq[int] {
	return func(yield func(int) bool) {
		for second := range len(r) {
			// A second that is missing is below each threshold.
			if r[second] >= threshold && !yield(second) {
				return
			}
		}
	}
}

// run is the span of loud seconds that belong together, and how many they are.
type run struct {
	api.Span
	loud int
}

// runs returns those of a record.
func runs(r []int, x Rule) []run {
	var l []run
	for second := range loud(r, x.Threshold) {
		if len(l) == 0 || second-l[len(l)-1].To > x.Gap {
			l = append(l, run{Span: api.Span{From: second}})
		}
		last := &l[len(l)-1]
		last.To = second + 1
		last.loud++
	}
	return l
}

// event returns that of a run, or the zero event if it has too few loud seconds to be one.
func (x run) event(r []int, least int) Event {
	if x.loud < least {
		return Event{}
	}
	within := r[x.From:x.To]
	sums := totalsOf(within)
	return Event{
		Span:    x.Span,
		Energy:  sums.sum,
		Peak:    sums.most,
		At:      x.From + slices.Index(within, sums.most),
		Missing: sums.missing,
	}
}

// Events returns the events of a record by a rule.
func Events(r []int, x Rule) ([]Event, api.Errno) {
	if e := check.First(CheckRecord(r), x.check()); e != api.OK {
		return nil, e
	}
	l := list.Mapped(runs(r, x), func(y run) Event { return y.event(r, x.Least) })
	l = slices.DeleteFunc(l, func(y Event) bool { return y == Event{} })
	if e := check.Each(l, func(y Event) api.Errno { return checkSum(y.Energy) }); e != api.OK {
		return nil, e
	}
	return l, api.OK
}
