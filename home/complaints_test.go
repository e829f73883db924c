package home_test

import (
	"fmt"
	"math"
	"slices"
	"strings"
	"testing"

	"flyover/api"
	"flyover/home"
)

// P8.3: complaints that are counted.
func TestCounted(t *testing.T) {
	calls := right().complaints
	full := slices.Repeat([]home.Complaint{call("h", 5)}, 64)
	for i, x := range []struct {
		l      []home.Complaint
		window int
		want   []int
		e      api.Errno
	}{
		{calls, 10, []int{0, 2, 3}, api.OK}, {calls, 11, []int{0, 2}, api.OK}, {calls, 5, []int{0, 2, 3}, api.OK}, {calls, 4, []int{0, 1, 2, 3}, api.OK}, {calls, 0, []int{0, 1, 2, 3}, api.OK}, {calls, 100000, []int{0, 2}, api.OK}, {nil, 0, nil, api.OK}, {full, 0, []int{0}, api.OK},
		// What is not counted does not hide others: of 0, 5, 10, 15 and 20 each third one is counted under 10, each second one under 9.
		{[]home.Complaint{call("h", 0), call("h", 5), call("h", 10), call("h", 15), call("h", 20)}, 10, []int{0, 3}, api.OK}, {[]home.Complaint{call("h", 0), call("h", 5), call("h", 10), call("h", 15), call("h", 20)}, 9, []int{0, 2, 4}, api.OK},
		{[]home.Complaint{call("h", 5), call("h", 5), call("h", 6)}, 0, []int{0, 2}, api.OK}, {[]home.Complaint{call("h", 5), call("g", 5), call("H", 5)}, 100, []int{0, 1, 2}, api.OK}, {[]home.Complaint{call("h", 0), call("g", 99999), call("h", 100000), call("g", api.MaxTick)}, 100000, []int{0, 1, 3}, api.OK}, {[]home.Complaint{call("h", 0), call("h", 100001)}, 100000, []int{0, 1}, api.OK},
		{append(full, call("h", 5)), 0, nil, api.ErrMany}, {make([]home.Complaint, 65), 0, nil, api.ErrMany}, {make([]home.Complaint, 64), 0, nil, api.ErrName},
		{[]home.Complaint{call("", 5)}, 0, nil, api.ErrName}, {[]home.Complaint{call(strings.Repeat("a", 25), 5)}, 0, nil, api.ErrName}, {[]home.Complaint{call(strings.Repeat("a", 24), 5)}, 0, []int{0}, api.OK},
		{[]home.Complaint{call("h", -1)}, 0, nil, api.ErrRange}, {[]home.Complaint{call("h", api.MaxTick+1)}, 0, nil, api.ErrRange}, {[]home.Complaint{call("h", 5), call("h", math.MinInt)}, 0, nil, api.ErrRange}, {[]home.Complaint{call("h", math.MaxInt)}, 0, nil, api.ErrRange},
		{[]home.Complaint{call("h", 5), call("h", 4)}, 0, nil, api.ErrOrder}, {[]home.Complaint{call("h", 5), call("g", 4)}, 0, nil, api.ErrOrder}, {[]home.Complaint{call("h", 5), call("h", 5), call("h", 0)}, 0, nil, api.ErrOrder},
		// The first complaint with an error decides, and of its errors the first one.
		{[]home.Complaint{call("h", 5), call("h", 4), call("", -1)}, 0, nil, api.ErrOrder}, {[]home.Complaint{call("h", 5), call("", 4)}, 0, nil, api.ErrName}, {[]home.Complaint{call("", -1)}, 0, nil, api.ErrName},
		{calls, -1, nil, api.ErrRange}, {calls, 100001, nil, api.ErrRange}, {calls, math.MinInt, nil, api.ErrRange}, {nil, -1, nil, api.ErrRange},
	} {
		l, e := home.Counted(x.l, x.window)
		are(t, fmt.Sprint("Counted ", i), l, x.want)
		is(t, fmt.Sprint("error of Counted ", i), e, x.e)
	}
	inOrder(t, "Counted", func(a arguments) (api.Errno, bool) {
		l, e := home.Counted(a.complaints, a.window)
		return e, len(l) == 0
	}, complaintFaults())
}

// P8.3: flights to which a complaint is tied.
func TestTied(t *testing.T) {
	flights := right().flights
	full := slices.Repeat([]api.Span{span(20, 21)}, 32)
	all := make([]int, 32)
	for i := range all {
		all[i] = i
	}
	for i, x := range []struct {
		c       home.Complaint
		flights []api.Span
		before  int
		after   int
		want    []int
		e       api.Errno
	}{
		{call("h", 20), flights, 5, 2, []int{0, 1}, api.OK}, {call("h", 20), flights, 4, 1, nil, api.OK}, {call("h", 20), flights, 5, 1, []int{0}, api.OK}, {call("h", 20), flights, 4, 2, []int{1}, api.OK}, {call("h", 20), flights, 4, 3, []int{1, 2}, api.OK}, {call("h", 20), nil, 5, 2, nil, api.OK}, {call("h", 20), full, 0, 0, all, api.OK},
		// The tick itself, and flights around the whole of it, and within.
		{call("h", 10), flights, 0, 0, []int{0}, api.OK}, {call("h", 9), flights, 0, 0, nil, api.OK}, {call("h", 15), flights, 0, 0, []int{0}, api.OK}, {call("h", 16), flights, 0, 0, nil, api.OK}, {call("h", 13), flights, 1, 1, []int{0}, api.OK}, {call("h", 13), flights, 100, 100, []int{0, 1, 2}, api.OK},
		{call("h", 0), []api.Span{span(0, 1), span(1, 2), span(0, api.MaxTick)}, 100000, 0, []int{0, 2}, api.OK}, {call("h", api.MaxTick), []api.Span{span(api.MaxTick-1, api.MaxTick), span(0, api.MaxTick), span(5, 6)}, 0, 100000, nil, api.OK}, {call("h", api.MaxTick), []api.Span{span(api.MaxTick-1, api.MaxTick), span(5, 6)}, 1, 0, []int{0}, api.OK}, {call("h", 100005), []api.Span{span(4, 5), span(5, 6), span(200005, 200006), span(200006, 200007)}, 100000, 100000, []int{1, 2}, api.OK},
		{call("h", 20), append(full, span(20, 21)), 0, 0, nil, api.ErrMany}, {call("h", 20), make([]api.Span, 33), 0, 0, nil, api.ErrMany}, {call("h", 20), make([]api.Span, 32), 0, 0, nil, api.ErrSpan},
		{call("h", 20), []api.Span{span(3, 3)}, 0, 0, nil, api.ErrSpan}, {call("h", 20), []api.Span{span(3, 2)}, 0, 0, nil, api.ErrSpan}, {call("h", 20), []api.Span{span(-1, 2)}, 0, 0, nil, api.ErrSpan}, {call("h", 20), []api.Span{span(3, api.MaxTick+1)}, 0, 0, nil, api.ErrSpan}, {call("h", 20), []api.Span{span(3, 4), span(math.MinInt, math.MaxInt)}, 0, 0, nil, api.ErrSpan},
		{call("h", 20), flights, -1, 0, nil, api.ErrRange}, {call("h", 20), flights, 100001, 0, nil, api.ErrRange}, {call("h", 20), flights, 0, -1, nil, api.ErrRange}, {call("h", 20), flights, 0, 100001, nil, api.ErrRange}, {call("h", 20), flights, math.MinInt, math.MaxInt, nil, api.ErrRange},
	} {
		l, e := home.Tied(x.c, x.flights, x.before, x.after)
		are(t, fmt.Sprint("Tied ", i), l, x.want)
		is(t, fmt.Sprint("error of Tied ", i), e, x.e)
	}
	inOrder(t, "Tied", func(a arguments) (api.Errno, bool) {
		l, e := home.Tied(a.complaint, a.flights, a.before, a.after)
		return e, len(l) == 0
	}, []fault{
		{func(a *arguments) { a.complaint.Home = "7" }, api.ErrName},
		{func(a *arguments) { a.complaint.Tick = -1 }, api.ErrRange},
		{func(a *arguments) { a.complaint.Tick = api.MaxTick + 1 }, api.ErrRange},
		{func(a *arguments) { a.flights = make([]api.Span, 33) }, api.ErrMany},
		{func(a *arguments) { a.flights[1] = span(5, 5) }, api.ErrSpan},
		{func(a *arguments) { a.before = -1 }, api.ErrRange},
		{func(a *arguments) { a.after = 100001 }, api.ErrRange},
	})
}

// P8.3: complaints that are due.
func TestDue(t *testing.T) {
	calls := right().complaints
	for i, x := range []struct {
		window   int
		answered []int
		tick     int
		deadline int
		want     []int
		e        api.Errno
	}{
		{10, nil, 30, 5, []int{0, 2, 3}, api.OK}, {10, []int{0}, 30, 5, []int{2, 3}, api.OK}, {10, []int{1}, 26, 5, []int{0, 2}, api.OK}, {10, nil, 27, 5, []int{0, 2, 3}, api.OK}, {10, nil, 15, 5, nil, api.OK}, {10, nil, 16, 5, []int{0}, api.OK}, {10, []int{0, 1, 2, 3}, 100, 5, nil, api.OK}, {10, []int{2, 3}, 100, 5, []int{0}, api.OK},
		{0, nil, 100, 5, []int{0, 1, 2, 3}, api.OK}, {0, []int{1}, 100, 5, []int{0, 2, 3}, api.OK}, {0, []int{1}, 22, 5, []int{0, 2}, api.OK}, {100, nil, 100, 5, []int{0, 2}, api.OK}, {100, []int{0}, 100, 5, []int{2}, api.OK},
		{10, nil, 0, 0, nil, api.OK}, {10, nil, 10, 0, nil, api.OK}, {10, nil, 11, 0, []int{0}, api.OK}, {10, nil, api.MaxTick, 100000, []int{0, 2, 3}, api.OK}, {10, nil, 100010, 100000, nil, api.OK}, {10, nil, 100011, 100000, []int{0}, api.OK},
		{10, []int{4}, 30, 5, nil, api.ErrUnknown}, {10, []int{-1}, 30, 5, nil, api.ErrUnknown}, {10, []int{math.MaxInt}, 30, 5, nil, api.ErrUnknown}, {10, []int{1, 1}, 30, 5, nil, api.ErrOrder}, {10, []int{2, 1}, 30, 5, nil, api.ErrOrder}, {10, []int{0, 1, 2, 3, 0}, 30, 5, nil, api.ErrOrder},
		// The errors of all indices come before their order.
		{10, []int{2, 1, 4}, 30, 5, nil, api.ErrUnknown}, {10, []int{0, 0, -1}, 30, 5, nil, api.ErrUnknown},
		{10, nil, -1, 5, nil, api.ErrRange}, {10, nil, api.MaxTick + 1, 5, nil, api.ErrRange}, {10, nil, 30, -1, nil, api.ErrRange}, {10, nil, 30, 100001, nil, api.ErrRange}, {-1, nil, 30, 5, nil, api.ErrRange}, {10, nil, math.MinInt, math.MaxInt, nil, api.ErrRange},
	} {
		l, e := home.Due(calls, x.window, x.answered, x.tick, x.deadline)
		are(t, fmt.Sprint("Due ", i), l, x.want)
		is(t, fmt.Sprint("error of Due ", i), e, x.e)
	}
	l, e := home.Due(nil, 0, nil, 5, 0)
	are(t, "Due of nothing", l, nil)
	is(t, "error of Due of nothing", e, api.OK)
	inOrder(t, "Due", func(a arguments) (api.Errno, bool) {
		l, e := home.Due(a.complaints, a.window, a.answered, a.tick, a.deadline)
		return e, len(l) == 0
	}, complaintFaults(), []fault{
		{func(a *arguments) { a.answered = []int{1, 0, 4} }, api.ErrUnknown},
		{func(a *arguments) { a.answered = []int{1, 0} }, api.ErrOrder},
		{func(a *arguments) { a.tick = -1 }, api.ErrRange},
		{func(a *arguments) { a.tick = api.MaxTick + 1 }, api.ErrRange},
		{func(a *arguments) { a.deadline = -1 }, api.ErrRange},
		{func(a *arguments) { a.deadline = 100001 }, api.ErrRange},
	})
}

// countedOf returns the complaints that are counted by the definition.
func countedOf(l []home.Complaint, window int) []int {
	var counted []int
	for i, c := range l {
		near := slices.ContainsFunc(counted, func(j int) bool { return l[j].Home == c.Home && l[j].Tick >= c.Tick-window })
		if !near {
			counted = append(counted, i)
		}
	}
	return counted
}

// P8.3: complaints that are counted, tied and due, by the definition.
func TestComplaintsByDefinition(t *testing.T) {
	r := seeded()
	kinds := map[string]int{}
	for range 3000 {
		l := someComplaints(r, 20)
		window := r.Intn(one(r, 1, 5, 20))
		what := fmt.Sprint(window, l)
		want := countedOf(l, window)
		counted, e := home.Counted(l, window)
		are(t, "Counted of "+what, counted, want)
		is(t, "error of Counted of "+what, e, api.OK)
		var answered, due []int
		tick, deadline := 0, r.Intn(10)
		for i, c := range l {
			if r.Intn(3) == 0 {
				answered = append(answered, i)
			}
			tick = min(api.MaxTick, c.Tick+r.Intn(10))
		}
		for _, i := range want {
			if !slices.Contains(answered, i) && tick > l[i].Tick+deadline {
				due = append(due, i)
			}
		}
		got, e := home.Due(l, window, answered, tick, deadline)
		are(t, fmt.Sprint("Due of ", answered, tick, deadline, what), got, due)
		is(t, "error of Due of "+what, e, api.OK)
		var flights []api.Span
		for range r.Intn(6) {
			first := r.Intn(40)
			flights = append(flights, span(first, first+from(r, 1, 10)))
		}
		c, before, after := call("h", r.Intn(40)), r.Intn(8), r.Intn(8)
		var tied []int
		for i, x := range flights {
			hears := false
			for tick := x.From; tick < x.To; tick++ {
				hears = hears || tick >= c.Tick-before && tick <= c.Tick+after
			}
			if hears {
				tied = append(tied, i)
			}
		}
		got, e = home.Tied(c, flights, before, after)
		are(t, fmt.Sprint("Tied of ", c, before, after, flights), got, tied)
		is(t, "error of Tied", e, api.OK)
		kinds[fmt.Sprint("all are counted: ", len(want) == len(l))]++
		kinds[fmt.Sprint("some are due: ", len(due) > 0)]++
		kinds[fmt.Sprint("some are tied: ", len(tied) > 0)]++
	}
	is(t, fmt.Sprint("all kinds: ", kinds), len(kinds), 6)
	for _, n := range kinds {
		is(t, fmt.Sprint("many of all: ", kinds), n > 100, true)
	}
}
