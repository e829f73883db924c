package monitor

import (
	"slices"

	"flyover/api"
	"flyover/check"
	"flyover/list"
	"flyover/sound"
)

// words has those of the reasons, in their order.
var words = [2]string{"time", "energy"}

// reason says whether it is one why a pass does not explain an event.
type reason struct {
	holds func(e Event, p Pass, slack int) bool
}

// reasons returns those of all words.
func reasons() [len(words)]reason {
	return [len(words)]reason{
		{holds: func(e Event, p Pass, slack int) bool { return distance(e, p) > slack }},
		{holds: func(e Event, p Pass, slack int) bool { return e.Energy < p.Energy.Low || e.Energy > p.Energy.High }},
	}
}

func checkSpan(x api.Span) api.Errno {
	return check.Span(x, MaxTime)
}

// check returns the first error of an event that must not begin before a time, or OK.
func (x Event) check(from int) api.Errno {
	return check.First(
		checkSpan(x.Span),
		check.That(x.Span.From >= from, api.ErrOverlap),
		sound.CheckEnergy(x.Energy),
		sound.CheckEnergy(x.Peak),
		check.That(x.Peak <= x.Energy, api.ErrForm),
		check.Within(x.At, x.Span.From, x.Span.To-1),
		check.Within(x.Missing, 0, x.Span.To-x.Span.From-1),
	)
}

// CheckEvents returns the first error of events, or OK.
func CheckEvents(l []Event) api.Errno {
	if e := check.AtMost(l, api.MaxExact); e != api.OK {
		return e
	}
	end := 0
	return check.Each(l, func(x Event) api.Errno {
		before := end
		end = x.Span.To
		return x.check(before)
	})
}

func checkName(s string) api.Errno {
	return check.That(sound.IsName(s), api.ErrName)
}

// CheckPasses returns the first error of passes, or OK.
func CheckPasses(l []Pass) api.Errno {
	return check.Named(l, api.MaxExact, func(p Pass, once check.Once) api.Errno {
		return check.First(
			checkName(p.Name),
			once(p.Name),
			checkSpan(p.Span),
			check.Interval(p.Energy, sound.CheckEnergy),
		)
	})
}

func checkSlack(n int) api.Errno {
	return check.Within(n, 0, MaxSlack)
}

// checkPair returns the first error of an event, a pass and a slack, or OK.
func checkPair(x Event, p Pass, slack int) api.Errno {
	return checkAll([]Event{x}, []Pass{p}, slack)
}

// checkAll returns the first error of events, passes and a slack, or OK.
func checkAll(l []Event, p []Pass, slack int) api.Errno {
	return check.First(CheckEvents(l), CheckPasses(p), checkSlack(slack))
}

// distance returns that of an event and a pass.
func distance(e Event, p Pass) int {
	return max(p.Span.From-e.At, e.At-(p.Span.To-1), 0)
}

// why returns the reasons why a pass does not explain an event.
func why(e Event, p Pass, slack int) []string {
	var l []string
	for i, x := range reasons() {
		if x.holds(e, p, slack) {
			l = append(l, words[i])
		}
	}
	return l
}

// Reasons returns why a pass does not explain an event.
func Reasons(e Event, p Pass, slack int) ([]string, api.Errno) {
	if no := checkPair(e, p, slack); no != api.OK {
		return nil, no
	}
	return why(e, p, slack), api.OK
}

// value returns that of a pass for an event: 0, which no pass that explains one has, if it does not.
func value(e Event, p Pass, slack int) int {
	if len(why(e, p, slack)) > 0 {
		return 0
	}
	return Reward - distance(e, p)
}

// Value returns the value of a pass for an event.
func Value(e Event, p Pass, slack int) (int, api.Errno) {
	if no := checkPair(e, p, slack); no != api.OK {
		return 0, no
	}
	n := value(e, p, slack)
	if n == 0 {
		return 0, api.ErrNone
	}
	return n, api.OK
}

// values returns, for each event, those of all passes.
func values(l []Event, p []Pass, slack int) [][]int {
	return list.Mapped(l, func(e Event) []int {
		return list.Mapped(p, func(x Pass) int { return value(e, x, slack) })
	})
}

// Unknown returns the indices of the events that no pass explains.
func Unknown(l []Event, p []Pass, slack int) ([]int, api.Errno) {
	if e := checkAll(l, p, slack); e != api.OK {
		return nil, e
	}
	var unknown []int
	for i, row := range values(l, p, slack) {
		if !slices.ContainsFunc(row, func(n int) bool { return n > 0 }) {
			unknown = append(unknown, i)
		}
	}
	return unknown, api.OK
}
