package monitor_test

import (
	"fmt"
	"math"
	"slices"
	"testing"

	"flyover/api"
	"flyover/monitor"
)

// crowd returns n events and as many passes, each of which explains all events alike.
func crowd(n int) ([]monitor.Event, []monitor.Pass) {
	var l []monitor.Event
	var p []monitor.Pass
	for i := range n {
		l = append(l, monitor.Event{Span: span(i, i+1), Energy: 5, Peak: 5, At: i})
		p = append(p, monitor.Pass{Name: string(rune('a' + i)), Span: span(0, 8), Energy: of(0, 9)})
	}
	return l, p
}

// P5.3: the values and the errors of matches.
func TestCheckMatch(t *testing.T) {
	for i, x := range []struct {
		l     []monitor.Event
		p     []monitor.Pass
		slack int
		match []int
		value int
		e     api.Errno
	}{
		{events(), passes(), 5, []int{0, 1}, 1993, api.OK}, {events(), passes(), 5, []int{1, -1}, 1000, api.OK}, {events(), passes(), 5, []int{-1, 1}, 995, api.OK}, {events(), passes(), 5, []int{0, -1}, 998, api.OK},
		{events(), passes(), 5, []int{-1, -1}, 0, api.OK}, {nil, passes(), 5, nil, 0, api.OK}, {nil, nil, 0, []int{}, 0, api.OK}, {events(), nil, 0, []int{-1, -1}, 0, api.OK},
		{events(), passes(), 5, []int{0}, 0, api.ErrShape}, {events(), passes(), 5, []int{0, 1, -1}, 0, api.ErrShape}, {events(), passes(), 5, nil, 0, api.ErrShape}, {nil, passes(), 5, []int{-1}, 0, api.ErrShape}, {events(), passes(), 5, []int{9}, 0, api.ErrShape},
		{events(), passes(), 5, []int{2, 1}, 0, api.ErrUnknown}, {events(), passes(), 5, []int{-2, 1}, 0, api.ErrUnknown}, {events(), passes(), 5, []int{0, math.MinInt}, 0, api.ErrUnknown}, {events(), passes(), 5, []int{math.MaxInt, 1}, 0, api.ErrUnknown}, {events(), nil, 5, []int{0, -1}, 0, api.ErrUnknown},
		{events(), passes(), 5, []int{1, 1}, 0, api.ErrTwice}, {events(), passes(), 5, []int{0, 0}, 0, api.ErrTwice}, {events(), passes(), 5, []int{-1, 0}, 0, api.ErrRule}, {events(), passes(), 4, []int{0, 1}, 0, api.ErrRule}, {events(), passes(), 1, []int{0, 2}, 0, api.ErrRule},
		{events(), passes(), 5, []int{2, 2}, 0, api.ErrUnknown},
		{badEvents(), badPasses(), 301, nil, 0, api.ErrOverlap}, {events(), badPasses(), 301, nil, 0, api.ErrName}, {events(), passes(), 301, nil, 0, api.ErrRange}, {events(), passes(), -1, []int{0, 1}, 0, api.ErrRange},
	} {
		n, e := monitor.CheckMatch(x.l, x.p, x.slack, x.match)
		is(t, fmt.Sprint("CheckMatch ", i), n, x.value)
		is(t, fmt.Sprint("error of CheckMatch ", i), e, x.e)
	}
}

// P5.3: the best match, and the second value.
func TestMatchAndSecond(t *testing.T) {
	l8, p8 := crowd(8)
	l3, p3 := crowd(3)
	// Of three events only the last one has a pass of its own.
	p3[0].Energy, p3[1].Energy = of(9, 9), of(9, 9)
	// The first event has the greater value with the pass that the second one needs.
	near := []monitor.Pass{{Name: "a", Span: span(2, 8), Energy: of(0, 200)}, {Name: "b", Span: span(0, 1), Energy: of(0, 200)}}
	for i, x := range []struct {
		l             []monitor.Event
		p             []monitor.Pass
		slack         int
		match         []int
		value, second int
		e             api.Errno
	}{
		{events(), passes(), 5, []int{0, 1}, 1993, 1000, api.OK}, {events(), passes(), 4, []int{1, -1}, 1000, 998, api.OK}, {events(), passes(), 1, []int{1, -1}, 1000, 0, api.OK},
		{events(), passes()[:1], 1, []int{-1, -1}, 0, 0, api.ErrNone}, {events(), nil, 0, []int{-1, -1}, 0, 0, api.ErrNone}, {nil, passes(), 0, nil, 0, 0, api.ErrNone}, {nil, nil, 300, nil, 0, 0, api.ErrNone},
		{events(), passes()[:1], 2, []int{0, -1}, 998, 0, api.OK}, {events(), near, 7, []int{1, 0}, 1998, 1993, api.OK}, {events(), near, 2, []int{1, 0}, 1998, 1000, api.OK}, {events(), near, 1, []int{0, -1}, 1000, 1000, api.OK},
		{l8, p8, 0, []int{0, 1, 2, 3, 4, 5, 6, 7}, 8000, 8000, api.OK}, {l8, p8[:3], 0, []int{0, 1, 2, -1, -1, -1, -1, -1}, 3000, 3000, api.OK}, {l8[:2], p8, 0, []int{0, 1}, 2000, 2000, api.OK}, {l8[:1], p8[:1], 0, []int{0}, 1000, 0, api.OK},
		{l3, p3, 0, []int{2, -1, -1}, 1000, 1000, api.OK}, {l3[:1], p3, 0, []int{2}, 1000, 0, api.OK},
		{badEvents(), badPasses(), 301, nil, 0, 0, api.ErrOverlap}, {events(), badPasses(), 301, nil, 0, 0, api.ErrName}, {events(), passes(), 301, nil, 0, 0, api.ErrRange}, {events(), passes(), -1, nil, 0, 0, api.ErrRange},
	} {
		m, n, e := monitor.Match(x.l, x.p, x.slack)
		are(t, fmt.Sprint("Match ", i), m, x.match)
		is(t, fmt.Sprint("the value of Match ", i), n, x.value)
		second, e2 := monitor.Second(x.l, x.p, x.slack)
		is(t, fmt.Sprint("Second ", i), second, x.second)
		is(t, fmt.Sprint("error of Second ", i), e2, x.e)
		if x.e == api.ErrNone {
			x.e = api.OK
		}
		is(t, fmt.Sprint("error of Match ", i), e, x.e)
	}
}

// rivals finds the best match, and the greatest value of the others, among all of them, in their order.
type rivals struct {
	match         []int
	value, second int
}

func (b *rivals) add(match []int, value int) {
	if value > b.value {
		b.second, b.value, b.match = b.value, value, slices.Clone(match)
		return
	}
	b.second = max(b.second, value)
}

// tryAll adds all matches that begin with one.
func (b *rivals) tryAll(l []monitor.Event, p []monitor.Pass, slack int, match []int, value int) {
	if len(match) == len(l) {
		b.add(match, value)
		return
	}
	for i, y := range p {
		if n, ok := worth(l[len(match)], y, slack); ok && !slices.Contains(match, i) {
			b.tryAll(l, p, slack, append(slices.Clone(match), i), value+n)
		}
	}
	b.tryAll(l, p, slack, append(slices.Clone(match), monitor.None), value)
}

// P5.3: the best match and the second value among all matches.
func TestMatchAmongAll(t *testing.T) {
	r := seeded()
	kinds := map[string]int{}
	for i := range 3000 {
		n := 4
		if i%50 == 0 {
			n = 6
		}
		l, p, slack := someEvents(r, n), somePasses(r, n), []int{2, 10, 300}[r.Intn(3)]
		all := rivals{value: -1, second: -1}
		all.tryAll(l, p, slack, nil, 0)
		what := fmt.Sprint(l, p, slack)
		m, value, e := monitor.Match(l, p, slack)
		is(t, "error of Match", e, api.OK)
		are(t, "Match of "+what, m, all.match)
		is(t, "the value of Match of "+what, value, all.value)
		second, e := monitor.Second(l, p, slack)
		if all.second < 0 {
			is(t, "error of Second of "+what, e, api.ErrNone)
			kinds["alone"]++
			continue
		}
		is(t, "error of Second of "+what, e, api.OK)
		is(t, "Second of "+what, second, all.second)
		if all.second == all.value {
			kinds["as great"]++
		} else if all.second > 0 {
			kinds["less"]++
		}
	}
	is(t, fmt.Sprint("many of all: ", kinds), kinds["alone"] > 300 && kinds["as great"] > 300 && kinds["less"] > 300, true)
}

// P5.3: bounds by prices.
func TestBound(t *testing.T) {
	for i, x := range []struct {
		l      []monitor.Event
		p      []monitor.Pass
		slack  int
		prices [2][]int
		bound  int
		e      api.Errno
	}{
		{events(), passes(), 5, [2][]int{{998, 0}, {0, 995}}, 1993, api.OK}, {events(), passes(), 5, [2][]int{{998, 0}, {0, 994}}, 0, api.ErrProof}, {events(), passes(), 5, [2][]int{{997, 0}, {0, 1000}}, 0, api.ErrProof},
		{events(), passes(), 5, [2][]int{{1000, 995}, {0, 0}}, 1995, api.OK}, {events(), passes(), 5, [2][]int{{999, 995}, {0, 0}}, 0, api.ErrProof}, {events(), passes(), 5, [2][]int{{999, 994}, {0, 1}}, 1994, api.OK},
		{events(), passes(), 5, [2][]int{{0, 0}, {998, 1000}}, 1998, api.OK}, {events(), passes(), 5, [2][]int{{0, 0}, {998, 999}}, 0, api.ErrProof}, {events(), passes(), 5, [2][]int{{1000, 1000}, {1000, 1000}}, 4000, api.OK},
		// Where no pass explains an event, prices may be 0.
		{events(), passes(), 1, [2][]int{{1000, 0}, {0, 0}}, 1000, api.OK}, {events(), passes()[:1], 1, [2][]int{{0, 0}, {0}}, 0, api.OK}, {events(), nil, 1, [2][]int{{0, 3}, nil}, 3, api.OK}, {nil, passes(), 1, [2][]int{nil, {1, 2}}, 3, api.OK}, {nil, nil, 0, [2][]int{}, 0, api.OK},
		{events(), passes(), 5, [2][]int{{1000}, {0, 1001}}, 0, api.ErrShape}, {events(), passes(), 5, [2][]int{{1000, 1001, 0}, {0, 0}}, 0, api.ErrShape}, {events(), passes(), 5, [2][]int{{1000, 995}, {0}}, 0, api.ErrShape}, {events(), passes(), 5, [2][]int{{1000, 995}, {0, 0, 0}}, 0, api.ErrShape},
		{events(), passes(), 5, [2][]int{{1000, 1001}, {0, 0}}, 0, api.ErrRange}, {events(), passes(), 5, [2][]int{{1000, -1}, {0, 0}}, 0, api.ErrRange}, {events(), passes(), 5, [2][]int{{1000, 995}, {0, 1001}}, 0, api.ErrRange}, {events(), passes(), 5, [2][]int{{0, 0}, {-1, 0}}, 0, api.ErrRange},
		{events(), passes(), 5, [2][]int{{math.MaxInt, 995}, {math.MaxInt, 0}}, 0, api.ErrRange}, {events(), nil, 5, [2][]int{{0, 0}, {0}}, 0, api.ErrShape}, {nil, passes(), 5, [2][]int{{0, 0}, {0, 0}}, 0, api.ErrShape},
		{badEvents(), badPasses(), 301, [2][]int{}, 0, api.ErrOverlap}, {events(), badPasses(), 301, [2][]int{}, 0, api.ErrName}, {events(), passes(), 301, [2][]int{}, 0, api.ErrRange}, {events(), passes(), -1, [2][]int{{1000, 995}, {0, 0}}, 0, api.ErrRange},
	} {
		n, e := monitor.Bound(x.l, x.p, x.slack, x.prices)
		is(t, fmt.Sprint("Bound ", i), n, x.bound)
		is(t, fmt.Sprint("error of Bound ", i), e, x.e)
	}
}

// P5.3: prices prove a bound exactly where they are at least all values.
func TestBoundByDefinition(t *testing.T) {
	r := seeded()
	proven := 0
	for range 3000 {
		l, p, slack := someEvents(r, 3), somePasses(r, 3), []int{2, 10, 300}[r.Intn(3)]
		prices := [2][]int{make([]int, len(l)), make([]int, len(p))}
		sum := 0
		for i := range prices {
			for j := range prices[i] {
				prices[i][j] = []int{0, from(r, 300, 700), from(r, 990, 1000)}[r.Intn(3)]
				sum += prices[i][j]
			}
		}
		holds := true
		for i, x := range l {
			for j, y := range p {
				n, _ := worth(x, y, slack)
				holds = holds && prices[0][i]+prices[1][j] >= n
			}
		}
		what := fmt.Sprint(l, p, slack, prices)
		n, e := monitor.Bound(l, p, slack, prices)
		if !holds {
			is(t, "error of Bound of "+what, e, api.ErrProof)
			is(t, "bound beside the error", n, 0)
			continue
		}
		is(t, "error of Bound of "+what, e, api.OK)
		is(t, "Bound of "+what, n, sum)
		_, value, _ := monitor.Match(l, p, slack)
		is(t, "a match that is above the bound of "+what, value > n, false)
		if value > 0 {
			proven++
		}
	}
	is(t, fmt.Sprint("many are proven: ", proven), proven > 200, true)
}
