package monitor_test

import (
	"fmt"
	"math"
	"slices"
	"testing"

	"flyover/api"
	"flyover/monitor"
)

func rule(threshold, gap, least int) monitor.Rule {
	return monitor.Rule{Threshold: threshold, Gap: gap, Least: least}
}

// P5.1: events of records.
func TestEvents(t *testing.T) {
	const most = api.MaxEnergy
	two := events()
	far := slices.Concat([]int{9}, alike(60, 1), []int{9}, alike(61, 1), []int{9})
	for i, x := range []struct {
		r []int
		x monitor.Rule
		l []monitor.Event
		e api.Errno
	}{
		{sample(), rule(50, 1, 1), two, api.OK}, {sample(), rule(50, 1, 3), two[:1], api.OK}, {sample(), rule(50, 1, 4), nil, api.OK},
		{sample(), rule(50, 2, 1), []monitor.Event{{Span: span(1, 8), Energy: 263, Peak: 90, At: 7, Missing: 1}}, api.OK},
		{sample(), rule(50, 2, 4), []monitor.Event{{Span: span(1, 8), Energy: 263, Peak: 90, At: 7, Missing: 1}}, api.OK}, {sample(), rule(50, 2, 5), nil, api.OK},
		{sample(), rule(50, 0, 2), []monitor.Event{{Span: span(1, 3), Energy: 110, Peak: 60, At: 2}}, api.OK},
		{sample(), rule(50, 0, 1), []monitor.Event{{Span: span(1, 3), Energy: 110, Peak: 60, At: 2}, {Span: span(4, 5), Energy: 55, Peak: 55, At: 4}, two[1]}, api.OK},
		{sample(), rule(51, 1, 1), []monitor.Event{{Span: span(2, 5), Energy: 115, Peak: 60, At: 2, Missing: 1}, two[1]}, api.OK},
		{sample(), rule(90, 0, 1), two[1:], api.OK}, {sample(), rule(91, 60, 1), nil, api.OK}, {sample(), rule(50, 1, 1024), nil, api.OK},
		{sample(), rule(1, 0, 1), []monitor.Event{{Span: span(0, 3), Energy: 115, Peak: 60, At: 2}, {Span: span(4, 8), Energy: 153, Peak: 90, At: 7}}, api.OK},
		// The first one of several peaks; a span begins and ends with loud seconds.
		{[]int{-1, 3, 7, 7, -1, -1, 7, 2, -1}, rule(4, 9, 1), []monitor.Event{{Span: span(2, 7), Energy: 21, Peak: 7, At: 2, Missing: 2}}, api.OK},
		{[]int{5, 1, 9, 1, 9}, rule(5, 1, 1), []monitor.Event{{Span: span(0, 5), Energy: 25, Peak: 9, At: 2}}, api.OK},
		{far, rule(9, 60, 1), []monitor.Event{{Span: span(0, 62), Energy: 78, Peak: 9, At: 0}, {Span: span(123, 124), Energy: 9, Peak: 9, At: 123}}, api.OK},
		{alike(1024, 2), rule(2, 0, 1024), []monitor.Event{{Span: span(0, 1024), Energy: 2048, Peak: 2, At: 0}}, api.OK},
		{[]int{-1, -1, -1}, rule(1, 60, 1), nil, api.OK}, {[]int{0, 0}, rule(1, 60, 1), nil, api.OK}, {[]int{most}, rule(most, 0, 1), []monitor.Event{{Span: span(0, 1), Energy: most, Peak: most, At: 0}}, api.OK},
		// Sums that are too large, but not of what is no event.
		{[]int{most, 1}, rule(1, 0, 1), nil, api.ErrLarge}, {[]int{most, 1}, rule(1, 0, 3), nil, api.OK}, {[]int{most, 1}, rule(2, 0, 1), []monitor.Event{{Span: span(0, 1), Energy: most, Peak: most, At: 0}}, api.OK},
		{[]int{5, 0, 0, most, 1, 3}, rule(3, 1, 1), nil, api.ErrLarge}, {[]int{5, 5, 0, most, 1, 3}, rule(3, 0, 2), []monitor.Event{{Span: span(0, 2), Energy: 10, Peak: 5, At: 0}}, api.OK},
		{[]int{most, 0, most}, rule(1, 0, 1), []monitor.Event{{Span: span(0, 1), Energy: most, Peak: most, At: 0}, {Span: span(2, 3), Energy: most, Peak: most, At: 2}}, api.OK},
		{[]int{most - 1, -1, 0, 1}, rule(1, 2, 2), []monitor.Event{{Span: span(0, 4), Energy: most, Peak: most - 1, At: 0, Missing: 1}}, api.OK},
	} {
		l, e := monitor.Events(x.r, x.x)
		are(t, fmt.Sprint("Events ", i), l, x.l)
		is(t, fmt.Sprint("error of Events ", i), e, x.e)
	}
	for i, x := range []struct {
		r []int
		x monitor.Rule
		e api.Errno
	}{
		{badRecord, rule(0, 0, 1), api.ErrEmpty}, {[]int{-2}, rule(1, 0, 1), api.ErrRange}, {alike(1025, 1), rule(0, 0, 0), api.ErrMany},
		{sample(), rule(0, 0, 1), api.ErrRange}, {sample(), rule(-1, 0, 1), api.ErrRange}, {sample(), rule(most+1, 0, 1), api.ErrRange}, {sample(), rule(most, 60, 1024), api.OK},
		{sample(), rule(1, -1, 1), api.ErrRange}, {sample(), rule(1, 61, 1), api.ErrRange}, {sample(), rule(1, 0, 0), api.ErrRange}, {sample(), rule(1, 0, 1025), api.ErrRange},
		{[]int{most, 1}, rule(1, 61, 1), api.ErrRange}, {sample(), rule(math.MinInt, math.MaxInt, math.MinInt), api.ErrRange},
	} {
		_, e := monitor.Events(x.r, x.x)
		is(t, fmt.Sprint("error of Events of a rule ", i), e, x.e)
	}
}

// expected returns the events of a record by the definition: one begins at a loud second before which there is no loud one for longer than the gap.
func expected(l []int, x monitor.Rule) []monitor.Event {
	isLoud := func(i int) bool { return i >= 0 && l[i] != monitor.Missing && l[i] >= x.Threshold }
	var out []monitor.Event
	for first := range l {
		begins := isLoud(first)
		for back := 1; back <= x.Gap+1; back++ {
			begins = begins && !isLoud(first-back)
		}
		if !begins {
			continue
		}
		y, loud, quiet := monitor.Event{Span: span(first, first), Peak: -1}, 0, 0
		for i := first; i < len(l) && quiet <= x.Gap; i++ {
			quiet++
			if isLoud(i) {
				y.Span.To, quiet = i+1, 0
				loud++
			}
		}
		for i := y.Span.From; i < y.Span.To; i++ {
			if l[i] == monitor.Missing {
				y.Missing++
				continue
			}
			y.Energy += l[i]
			if l[i] > y.Peak {
				y.Peak, y.At = l[i], i
			}
		}
		if loud >= x.Least {
			out = append(out, y)
		}
	}
	return out
}

// P5.1: events by the definition.
func TestEventsByDefinition(t *testing.T) {
	r := seeded()
	found := 0
	for range 5000 {
		l, x := someRecord(r, 30), rule(from(r, 1, 4), r.Intn(5), from(r, 1, 4))
		got, e := monitor.Events(l, x)
		is(t, "error of Events", e, api.OK)
		are(t, fmt.Sprint("Events of ", l, x), got, expected(l, x))
		found += len(got)
		for _, y := range got {
			is(t, "CheckEvents of an event", monitor.CheckEvents([]monitor.Event{y}), api.OK)
		}
	}
	is(t, fmt.Sprint("many events: ", found), found > 5000, true)
}
