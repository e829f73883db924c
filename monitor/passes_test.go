package monitor_test

import (
	"fmt"
	"math"
	"slices"
	"strings"
	"testing"

	"flyover/api"
	"flyover/monitor"
)

// P5.3: the errors of events, in their order.
func TestCheckEvents(t *testing.T) {
	const most = api.MaxEnergy
	for i, x := range []struct {
		change func(x *monitor.Event)
		e      api.Errno
	}{
		{func(x *monitor.Event) {}, api.OK}, {func(x *monitor.Event) { x.Span.From = 5 }, api.OK}, {func(x *monitor.Event) { x.Span, x.At = span(99999, 100000), 99999 }, api.OK},
		{func(x *monitor.Event) { x.Energy, x.Peak = most, most }, api.OK}, {func(x *monitor.Event) { x.Energy, x.Peak = 0, 0 }, api.OK}, {func(x *monitor.Event) { x.Peak = 0 }, api.OK},
		{func(x *monitor.Event) { x.Span, x.At, x.Missing = span(7, 10), 9, 2 }, api.OK}, {func(x *monitor.Event) { x.Span, x.At, x.Missing = span(7, 10), 7, 0 }, api.OK},
		{func(x *monitor.Event) { x.Span.To = 7 }, api.ErrSpan}, {func(x *monitor.Event) { x.Span.To = 6 }, api.ErrSpan}, {func(x *monitor.Event) { x.Span.To = 100001 }, api.ErrSpan},
		{func(x *monitor.Event) { x.Span = span(-1, 8) }, api.ErrSpan}, {func(x *monitor.Event) { x.Span = span(4, 4) }, api.ErrSpan}, {func(x *monitor.Event) { x.Span = span(math.MinInt, math.MaxInt) }, api.ErrSpan},
		{func(x *monitor.Event) { x.Span = span(math.MaxInt, math.MinInt) }, api.ErrSpan},
		{func(x *monitor.Event) { x.Span.From = 4 }, api.ErrOverlap}, {func(x *monitor.Event) { x.Span.From = 0 }, api.ErrOverlap}, {func(x *monitor.Event) { x.Span, x.Energy = span(1, 5), -1 }, api.ErrOverlap},
		{func(x *monitor.Event) { x.Energy = -1 }, api.ErrRange}, {func(x *monitor.Event) { x.Energy = most + 1 }, api.ErrRange}, {func(x *monitor.Event) { x.Peak = -1 }, api.ErrRange},
		{func(x *monitor.Event) { x.Energy, x.Peak = most, most+1 }, api.ErrRange}, {func(x *monitor.Event) { x.Peak = 91 }, api.ErrForm}, {func(x *monitor.Event) { x.Energy, x.At = 89, 9 }, api.ErrForm},
		{func(x *monitor.Event) { x.At = 8 }, api.ErrRange}, {func(x *monitor.Event) { x.At = 6 }, api.ErrRange}, {func(x *monitor.Event) { x.Missing = 1 }, api.ErrRange}, {func(x *monitor.Event) { x.Missing = -1 }, api.ErrRange},
		{func(x *monitor.Event) { x.Span.To, x.Missing = 10, 3 }, api.ErrRange},
	} {
		l := changedEvents(x.change)
		is(t, fmt.Sprint("CheckEvents ", i), monitor.CheckEvents(l), x.e)
		if x.e != api.ErrOverlap {
			is(t, fmt.Sprint("CheckEvents of one ", i), monitor.CheckEvents(l[1:]), x.e)
		}
	}
	var eight []monitor.Event
	for i := range 8 {
		eight = append(eight, monitor.Event{Span: span(i, i+1), At: i})
	}
	nine := append(slices.Clone(eight), monitor.Event{Span: span(8, 9), At: 8})
	for i, x := range []struct {
		l []monitor.Event
		e api.Errno
	}{
		{nil, api.OK}, {eight, api.OK}, {nine, api.ErrMany}, {make([]monitor.Event, 9), api.ErrMany}, {make([]monitor.Event, 8), api.ErrSpan},
		{[]monitor.Event{eight[1], eight[0], {}}, api.ErrOverlap}, {[]monitor.Event{eight[1], {}, eight[0]}, api.ErrSpan}, {[]monitor.Event{eight[1], eight[1]}, api.ErrOverlap},
		{[]monitor.Event{eight[0], eight[2], eight[1]}, api.ErrOverlap},
	} {
		is(t, fmt.Sprint("CheckEvents of many ", i), monitor.CheckEvents(x.l), x.e)
	}
}

// P5.3: the errors of passes, in their order.
func TestCheckPasses(t *testing.T) {
	const most = api.MaxEnergy
	for i, x := range []struct {
		change func(p *monitor.Pass)
		e      api.Errno
	}{
		{func(p *monitor.Pass) {}, api.OK}, {func(p *monitor.Pass) { p.Name = strings.Repeat("b", 24) }, api.OK}, {func(p *monitor.Pass) { p.Span = span(99999, 100000) }, api.OK},
		{func(p *monitor.Pass) { p.Span = span(0, 100000) }, api.OK}, {func(p *monitor.Pass) { p.Energy = of(0, most) }, api.OK}, {func(p *monitor.Pass) { p.Energy = of(most, most) }, api.OK}, {func(p *monitor.Pass) { p.Name = "A" }, api.OK},
		{func(p *monitor.Pass) { p.Name = "" }, api.ErrName}, {func(p *monitor.Pass) { p.Name = "1b" }, api.ErrName}, {func(p *monitor.Pass) { p.Name = strings.Repeat("b", 25) }, api.ErrName}, {func(p *monitor.Pass) { p.Name, p.Span.To = "\xff", 0 }, api.ErrName},
		{func(p *monitor.Pass) { p.Name = "a" }, api.ErrTwice}, {func(p *monitor.Pass) { *p = monitor.Pass{Name: "a"} }, api.ErrTwice},
		{func(p *monitor.Pass) { p.Span.To = 0 }, api.ErrSpan}, {func(p *monitor.Pass) { p.Span.From = -1 }, api.ErrSpan}, {func(p *monitor.Pass) { p.Span.To = 100001 }, api.ErrSpan}, {func(p *monitor.Pass) { p.Span = span(9, 8) }, api.ErrSpan},
		{func(p *monitor.Pass) { p.Span, p.Energy = span(9, 9), of(2, -1) }, api.ErrSpan}, {func(p *monitor.Pass) { p.Span = span(math.MinInt, math.MaxInt) }, api.ErrSpan},
		{func(p *monitor.Pass) { p.Energy = of(-1, 1) }, api.ErrRange}, {func(p *monitor.Pass) { p.Energy = of(1, -1) }, api.ErrRange}, {func(p *monitor.Pass) { p.Energy = of(1, most+1) }, api.ErrRange},
		{func(p *monitor.Pass) { p.Energy = of(most+1, 1) }, api.ErrRange}, {func(p *monitor.Pass) { p.Energy = of(2, 1) }, api.ErrOrder}, {func(p *monitor.Pass) { p.Energy = of(most, 0) }, api.ErrOrder},
	} {
		l := changedPasses(x.change)
		is(t, fmt.Sprint("CheckPasses ", i), monitor.CheckPasses(l), x.e)
		if x.e != api.ErrTwice {
			is(t, fmt.Sprint("CheckPasses of one ", i), monitor.CheckPasses(l[1:]), x.e)
		}
	}
	var nine []monitor.Pass
	for _, name := range strings.Split("abcdefghi", "") {
		nine = append(nine, monitor.Pass{Name: name, Span: span(0, 1)})
	}
	for i, x := range []struct {
		l []monitor.Pass
		e api.Errno
	}{
		{nil, api.OK}, {nine[:8], api.OK}, {nine, api.ErrMany}, {make([]monitor.Pass, 9), api.ErrMany}, {make([]monitor.Pass, 8), api.ErrName},
		{[]monitor.Pass{nine[0], nine[1], nine[0], {}}, api.ErrTwice}, {[]monitor.Pass{nine[0], nine[1], {}, nine[0]}, api.ErrName},
	} {
		is(t, fmt.Sprint("CheckPasses of many ", i), monitor.CheckPasses(x.l), x.e)
	}
}

// P5.3: reasons and values.
func TestReasonsAndValue(t *testing.T) {
	none := []string{}
	time, energy := []string{"time"}, []string{"energy"}
	later := passes()[0]
	later.Span = span(20, 30)
	for i, x := range []struct {
		event   monitor.Event
		pass    monitor.Pass
		slack   int
		reasons []string
		value   int
	}{
		{events()[0], passes()[0], 2, none, 998}, {events()[0], passes()[0], 300, none, 998}, {events()[0], passes()[0], 1, time, 0}, {events()[0], passes()[1], 0, none, 1000},
		{events()[1], passes()[0], 0, energy, 0}, {events()[1], passes()[1], 5, none, 995}, {events()[1], passes()[1], 4, time, 0}, {events()[1], later, 12, []string{"time", "energy"}, 0}, {events()[1], later, 13, energy, 0},
		// Energies and spans include their ends, but no second at To.
		{events()[0], monitor.Pass{Name: "c", Span: span(2, 3), Energy: of(165, 165)}, 0, none, 1000}, {events()[0], monitor.Pass{Name: "c", Span: span(2, 3), Energy: of(166, 200)}, 0, energy, 0},
		{events()[0], monitor.Pass{Name: "c", Span: span(2, 3), Energy: of(0, 164)}, 0, energy, 0}, {events()[0], monitor.Pass{Name: "c", Span: span(1, 2), Energy: of(165, 165)}, 0, time, 0},
		{events()[0], monitor.Pass{Name: "c", Span: span(1, 2), Energy: of(165, 165)}, 1, none, 999}, {events()[0], monitor.Pass{Name: "c", Span: span(3, 9), Energy: of(165, 165)}, 0, time, 0},
		// The distance is that of the peak's second, and not of the event's span.
		{monitor.Event{Span: span(0, 1000), At: 400}, monitor.Pass{Name: "c", Span: span(700, 800)}, 300, none, 700}, {monitor.Event{Span: span(0, 1000), At: 399}, monitor.Pass{Name: "c", Span: span(700, 800)}, 300, time, 0},
		{monitor.Event{Span: span(0, 100000), At: 99999}, monitor.Pass{Name: "c", Span: span(99600, 99700)}, 300, none, 700}, {monitor.Event{Span: span(0, 100000), At: 99999}, monitor.Pass{Name: "c", Span: span(0, 1)}, 300, time, 0},
	} {
		l, e := monitor.Reasons(x.event, x.pass, x.slack)
		are(t, fmt.Sprint("Reasons ", i), l, x.reasons)
		is(t, fmt.Sprint("error of Reasons ", i), e, api.OK)
		want := api.OK
		if len(x.reasons) > 0 {
			want = api.ErrNone
		}
		n, e := monitor.Value(x.event, x.pass, x.slack)
		is(t, fmt.Sprint("Value ", i), n, x.value)
		is(t, fmt.Sprint("error of Value ", i), e, want)
	}
	bad, badPass := events()[0], badPasses()[1]
	bad.Peak = 166
	for i, x := range []struct {
		event monitor.Event
		pass  monitor.Pass
		slack int
		e     api.Errno
	}{
		{bad, badPass, -1, api.ErrForm}, {events()[0], badPass, -1, api.ErrName}, {events()[0], later, -1, api.ErrRange}, {events()[0], later, 301, api.ErrRange},
		{monitor.Event{}, monitor.Pass{}, 0, api.ErrSpan}, {events()[0], later, math.MinInt, api.ErrRange}, {badEvents()[1], passes()[1], 301, api.ErrRange},
	} {
		l, e := monitor.Reasons(x.event, x.pass, x.slack)
		are(t, "reasons beside the error", l, nil)
		is(t, fmt.Sprint("error of Reasons ", i), e, x.e)
		n, e := monitor.Value(x.event, x.pass, x.slack)
		is(t, "value beside the error", n, 0)
		is(t, fmt.Sprint("error of Value ", i), e, x.e)
	}
}

// P5.3: events that no pass explains.
func TestUnknown(t *testing.T) {
	for i, x := range []struct {
		l     []monitor.Event
		p     []monitor.Pass
		slack int
		at    []int
		e     api.Errno
	}{
		{events(), passes(), 5, nil, api.OK}, {events(), passes(), 4, []int{1}, api.OK}, {events(), passes()[:1], 5, []int{1}, api.OK}, {events(), passes()[:1], 1, []int{0, 1}, api.OK},
		{events(), nil, 300, []int{0, 1}, api.OK}, {nil, passes(), 5, nil, api.OK}, {nil, nil, 0, nil, api.OK},
		{badEvents(), badPasses(), 301, nil, api.ErrOverlap}, {events(), badPasses(), 301, nil, api.ErrName}, {events(), passes(), 301, nil, api.ErrRange}, {nil, nil, -1, nil, api.ErrRange},
	} {
		l, e := monitor.Unknown(x.l, x.p, x.slack)
		are(t, fmt.Sprint("Unknown ", i), l, x.at)
		is(t, fmt.Sprint("error of Unknown ", i), e, x.e)
	}
}

// P5.3: values, reasons and unknown events by the definitions.
func TestPassesByDefinition(t *testing.T) {
	r := seeded()
	explained, without := 0, 0
	for range 3000 {
		l, p, slack := someEvents(r, 4), somePasses(r, 4), r.Intn(12)
		what := fmt.Sprint(l, p, slack)
		var want []int
		for i, x := range l {
			known := false
			for _, y := range p {
				n, ok := worth(x, y, slack)
				known = known || ok
				got, e := monitor.Value(x, y, slack)
				is(t, "Value of "+what, got, n)
				is(t, "error of Value of "+what, e == api.OK, ok)
				reasons, e := monitor.Reasons(x, y, slack)
				is(t, "error of Reasons", e, api.OK)
				is(t, "no reasons of "+what, len(reasons) == 0, ok)
				_, ok = worth(x, y, monitor.MaxTime)
				is(t, "the reason energy of "+what, slices.Contains(reasons, "energy"), !ok)
			}
			if known {
				explained++
			} else {
				want = append(want, i)
			}
		}
		got, e := monitor.Unknown(l, p, slack)
		is(t, "error of Unknown", e, api.OK)
		are(t, "Unknown of "+what, got, want)
		without += len(want)
	}
	is(t, fmt.Sprint("many of both: ", explained, without), explained > 500 && without > 500, true)
}
