package night_test

import (
	"fmt"
	"math"
	"slices"
	"testing"

	"flyover/api"
	"flyover/night"
)

// P7.3: what is wrong with granted requests.
func TestFits(t *testing.T) {
	poor := changedRules(func(r *night.Rules) { r.Quota = 8 })
	slow := changedRules(func(r *night.Rules) { r.Rate = 1 })
	both := changedRules(func(r *night.Rules) { r.Quota, r.Rate = 8, 1 })
	eight := slices.Repeat([]night.Request{request("prop", 6, 1)}, 8)
	for i, x := range []struct {
		r       night.Rules
		l       []night.Request
		granted []int
		word    string
		e       api.Errno
	}{
		{rules(), asked(), []int{0, 1, 3}, "", api.OK}, {rules(), asked(), []int{0, 1, 2}, "rate", api.OK}, {rules(), asked(), []int{0, 1, 2, 3}, "rate", api.OK}, {rules(), asked(), nil, "", api.OK}, {rules(), nil, nil, "", api.OK}, {rules(), asked(), []int{3}, "", api.OK},
		{poor, asked(), []int{0, 1}, "", api.OK}, {poor, asked(), []int{0, 1, 3}, "quota", api.OK}, {poor, asked(), []int{0, 1, 2}, "quota", api.OK}, {slow, asked(), []int{0, 3}, "", api.OK}, {slow, asked(), []int{0, 2}, "rate", api.OK}, {both, asked(), []int{0, 1}, "rate", api.OK}, {both, asked(), []int{0, 1, 3}, "quota", api.OK},
		{changedRules(func(r *night.Rules) { r.Rate = 8 }), eight, []int{0, 1, 2, 3, 4, 5, 6, 7}, "", api.OK}, {changedRules(func(r *night.Rules) { r.Rate = 7 }), eight, []int{0, 1, 2, 3, 4, 5, 6, 7}, "rate", api.OK}, {changedRules(func(r *night.Rules) { r.Rate = 7 }), eight, []int{0, 1, 2, 3, 4, 5, 6}, "", api.OK},
		{changedRules(func(r *night.Rules) { r.Quota = 0 }), asked(), []int{3}, "quota", api.OK}, {changedRules(func(r *night.Rules) { r.Quota, r.Types[1].Count = 0, 0 }), asked(), []int{2, 3}, "", api.OK},
		{rules(), asked(), []int{1, 0}, "", api.ErrOrder}, {rules(), asked(), []int{1, 1}, "", api.ErrOrder}, {rules(), asked(), []int{0, 3, 2}, "", api.ErrOrder}, {rules(), asked(), []int{4}, "", api.ErrUnknown}, {rules(), asked(), []int{-1}, "", api.ErrUnknown}, {rules(), nil, []int{0}, "", api.ErrUnknown}, {rules(), asked(), []int{math.MinInt}, "", api.ErrUnknown}, {rules(), asked(), []int{math.MaxInt}, "", api.ErrUnknown},
		// The first index with an error decides.
		{rules(), asked(), []int{1, 0, 4}, "", api.ErrOrder}, {rules(), asked(), []int{1, 4, 0}, "", api.ErrUnknown}, {rules(), asked(), []int{1, -1}, "", api.ErrUnknown}, {rules(), asked(), []int{0, 0, 9}, "", api.ErrOrder}, {rules(), asked(), []int{0, 1, 2, 2}, "", api.ErrOrder},
	} {
		word, e := night.Fits(x.r, x.l, x.granted)
		is(t, fmt.Sprint("Fits ", i), word, x.word)
		is(t, fmt.Sprint("error of Fits ", i), e, x.e)
	}
}

// P7.3: the best sets.
func TestPlan(t *testing.T) {
	quota := func(n int) night.Rules { return changedRules(func(r *night.Rules) { r.Quota = n }) }
	free := changedRules(func(r *night.Rules) { r.Types[1].Count = 0 })
	for i, x := range []struct {
		r     night.Rules
		l     []night.Request
		best  []int
		value int
	}{
		{rules(), asked(), []int{0, 1, 3}, 19}, {quota(8), asked(), []int{0, 1}, 17}, {quota(7), asked(), []int{0, 2, 3}, 14}, {quota(0), asked(), nil, 0}, {rules(), nil, nil, 0}, {quota(100000), asked(), []int{0, 1, 3}, 19},
		// Of several the one with the least counts.
		{rules(), []night.Request{request("jet", 0, 5), request("prop", 0, 0), request("prop", 1, 5)}, []int{0, 2}, 10}, {quota(5), []night.Request{request("jet", 0, 5), request("prop", 0, 5), request("prop", 0, 0)}, []int{0, 1}, 10}, {quota(4), []night.Request{request("jet", 0, 5), request("prop", 0, 5)}, []int{1}, 5}, {quota(4), []night.Request{request("jet", 0, 6), request("prop", 0, 5)}, []int{0}, 6}, {quota(4), []night.Request{request("jet", 0, 4), request("prop", 1, 2), request("prop", 2, 2)}, []int{1, 2}, 4},
		// Of several the first one: a beginning is before what goes on.
		{rules(), []night.Request{request("prop", 0, 3), request("prop", 0, 3), request("prop", 0, 3)}, []int{0, 1}, 6}, {quota(1), []night.Request{request("prop", 0, 3), request("prop", 1, 3)}, []int{0}, 3}, {free, []night.Request{request("prop", 0, 0), request("prop", 1, 3), request("prop", 2, 0)}, []int{0, 1}, 3}, {free, []night.Request{request("prop", 1, 3), request("prop", 0, 0), request("prop", 2, 0)}, []int{0}, 3}, {free, []night.Request{request("prop", 0, 0)}, nil, 0},
		{quota(1), []night.Request{request("prop", 0, 1), request("prop", 1, 3), request("prop", 2, 3)}, []int{1}, 3}, {quota(2), []night.Request{request("prop", 0, 2), request("prop", 1, 3), request("prop", 2, 3), request("prop", 3, 2)}, []int{1, 2}, 6}, {quota(2), []night.Request{request("prop", 0, 2), request("prop", 1, 3), request("prop", 2, 2), request("prop", 3, 3)}, []int{1, 3}, 6},
		{quota(9), []night.Request{request("jet", 0, 5), request("prop", 6, 5), request("jet", 1, 3), request("jet", 2, 3)}, []int{0, 1, 2}, 13},
		{quota(8), slices.Repeat([]night.Request{request("prop", 0, 1000)}, 8), []int{0, 1}, 2000}, {changedRules(func(r *night.Rules) { r.Rate = 8 }), slices.Repeat([]night.Request{request("prop", 0, 1000)}, 8), []int{0, 1, 2, 3, 4, 5, 6, 7}, 8000},
	} {
		best, value, e := night.Plan(x.r, x.l)
		are(t, fmt.Sprint("Plan ", i), best, x.best)
		is(t, fmt.Sprint("the value of Plan ", i), value, x.value)
		is(t, "error of Plan", e, api.OK)
	}
}

// P7.3: the bounds of prices.
func TestBound(t *testing.T) {
	most := changedRules(func(r *night.Rules) { r.Night, r.Quota, r.Rate = span(300, 299), 100000, 60 })
	most.Curfew = span(300, 301)
	hour := changedRules(func(r *night.Rules) { r.Night, r.Curfew = span(1380, 0), span(1380, 0) })
	longer := changedRules(func(r *night.Rules) { r.Night, r.Curfew = span(1380, 1), span(1380, 0) })
	minute := changedRules(func(r *night.Rules) { r.Night, r.Curfew = span(1380, 1381), span(1380, 1381) })
	for i, x := range []struct {
		r      night.Rules
		l      []night.Request
		prices [2]int
		n      int
		e      api.Errno
	}{
		{rules(), asked(), [2]int{}, 22, api.OK}, {rules(), asked(), [2]int{2, 0}, 22, api.OK}, {rules(), asked(), [2]int{1, 0}, 22, api.OK}, {rules(), asked(), [2]int{3, 0}, 30, api.OK}, {rules(), asked(), [2]int{0, 1}, 32, api.OK}, {rules(), asked(), [2]int{0, 8}, 113, api.OK}, {rules(), asked(), [2]int{0, 9}, 126, api.OK}, {rules(), asked(), [2]int{1, 1}, 32, api.OK}, {rules(), asked(), [2]int{1000, 1000}, 24000, api.OK},
		{rules(), nil, [2]int{}, 0, api.OK}, {rules(), nil, [2]int{3, 2}, 58, api.OK}, {most, nil, [2]int{1000, 1000}, 100000000 + 1000*60*24, api.OK}, {most, []night.Request{request("jet", 23, 1000)}, [2]int{0, 0}, 1000, api.OK},
		// The hours are rounded up.
		{hour, nil, [2]int{0, 1}, 2, api.OK}, {longer, nil, [2]int{0, 1}, 4, api.OK}, {minute, nil, [2]int{0, 1}, 2, api.OK}, {minute, []night.Request{request("jet", 0, 9)}, [2]int{1, 1}, 16, api.OK},
		{rules(), asked(), [2]int{-1, 0}, 0, api.ErrRange}, {rules(), asked(), [2]int{1001, 0}, 0, api.ErrRange}, {rules(), asked(), [2]int{0, -1}, 0, api.ErrRange}, {rules(), asked(), [2]int{0, 1001}, 0, api.ErrRange}, {rules(), nil, [2]int{math.MinInt, math.MaxInt}, 0, api.ErrRange},
	} {
		n, e := night.Bound(x.r, x.l, x.prices)
		is(t, fmt.Sprint("Bound ", i), n, x.n)
		is(t, fmt.Sprint("error of Bound ", i), e, x.e)
	}
}

// P7.3: the errors of requests, and those of what comes after them.
func TestRequestErrors(t *testing.T) {
	minute := changedRules(func(r *night.Rules) { r.Night, r.Curfew = span(1380, 1381), span(1380, 1381) })
	longer := changedRules(func(r *night.Rules) { r.Night, r.Curfew = span(1380, 1), span(1380, 0) })
	most := changedRules(func(r *night.Rules) { r.Night = span(300, 299) })
	most.Curfew = span(300, 301)
	for i, x := range []struct {
		r night.Rules
		l []night.Request
		e api.Errno
	}{
		{rules(), slices.Repeat(asked(), 2), api.OK}, {rules(), slices.Repeat(asked(), 3), api.ErrMany}, {rules(), make([]night.Request, 8), api.ErrUnknown}, {rules(), []night.Request{request("Jet", 0, 1)}, api.ErrUnknown}, {changedRules(func(r *night.Rules) { r.Types = nil }), asked(), api.ErrUnknown},
		{rules(), []night.Request{request("jet", 6, 0)}, api.OK}, {rules(), []night.Request{request("jet", 7, 0)}, api.ErrRange}, {rules(), []night.Request{request("jet", -1, 0)}, api.ErrRange}, {rules(), []night.Request{request("jet", math.MaxInt, 0)}, api.ErrRange},
		{minute, []night.Request{request("jet", 0, 0)}, api.OK}, {minute, []night.Request{request("jet", 1, 0)}, api.ErrRange}, {longer, []night.Request{request("jet", 1, 0)}, api.OK}, {longer, []night.Request{request("jet", 2, 0)}, api.ErrRange}, {most, []night.Request{request("jet", 23, 0)}, api.OK}, {most, []night.Request{request("jet", 24, 0)}, api.ErrRange},
		{rules(), []night.Request{request("jet", 0, 1000)}, api.OK}, {rules(), []night.Request{request("jet", 0, 1001)}, api.ErrRange}, {rules(), []night.Request{request("jet", 0, -1)}, api.ErrRange},
		// The first request with an error decides.
		{rules(), []night.Request{request("jet", 0, -1), request("", 0, 0)}, api.ErrRange},
	} {
		_, e := night.Fits(x.r, x.l, nil)
		is(t, fmt.Sprint("error of Fits ", i), e, x.e)
		_, _, e = night.Plan(x.r, x.l)
		is(t, fmt.Sprint("error of Plan ", i), e, x.e)
		_, e = night.Bound(x.r, x.l, [2]int{})
		is(t, fmt.Sprint("error of Bound ", i), e, x.e)
	}
	inOrder(t, "Fits", func(a arguments) (api.Errno, bool) {
		word, e := night.Fits(a.rules, a.requests, a.granted)
		return e, word == ""
	}, ruleFaults(), requestFaults(), []fault{
		{func(a *arguments) { a.granted = []int{0, 4, 0} }, api.ErrUnknown},
		{func(a *arguments) { a.granted = []int{0, 1, 2, 0} }, api.ErrOrder},
	})
	inOrder(t, "Plan", func(a arguments) (api.Errno, bool) {
		best, value, e := night.Plan(a.rules, a.requests)
		return e, len(best) == 0 && value == 0
	}, ruleFaults(), requestFaults())
	inOrder(t, "Bound", func(a arguments) (api.Errno, bool) {
		n, e := night.Bound(a.rules, a.requests, a.prices)
		return e, n == 0
	}, ruleFaults(), requestFaults(), []fault{
		{func(a *arguments) { a.prices[0] = -1 }, api.ErrRange},
		{func(a *arguments) { a.prices[1] = 1001 }, api.ErrRange},
	})
}

// granted is a set of requests by the definition, with its sums.
type granted struct {
	indices []int
	value   int
	count   int
	word    string
}

// grantedOf returns the set whose indices are the bits of a number.
func grantedOf(x night.Rules, l []night.Request, bits int) granted {
	var g granted
	hours := map[int]int{}
	for i, y := range l {
		if bits>>i&1 == 1 {
			g.indices = append(g.indices, i)
			g.value += y.Value
			g.count += typeOf(x, y.Type).Count
			hours[y.Hour]++
		}
	}
	for _, n := range hours {
		if n > x.Rate {
			g.word = "rate"
		}
	}
	if g.count > x.Quota {
		g.word = "quota"
	}
	return g
}

// before reports whether a set is better than another one.
func (g granted) before(h granted) bool {
	if g.value != h.value {
		return g.value > h.value
	}
	if g.count != h.count {
		return g.count < h.count
	}
	for i := range min(len(g.indices), len(h.indices)) {
		if g.indices[i] != h.indices[i] {
			return g.indices[i] < h.indices[i]
		}
	}
	return len(g.indices) < len(h.indices)
}

// P7.3, P8: what fits, the best set and its bounds by the definition, among all sets.
func TestRequestsByDefinition(t *testing.T) {
	r := seeded()
	kinds := map[string]int{}
	for range 1500 {
		x := someRules(r)
		l := someRequests(r, x, 8)
		what := fmt.Sprint(x, l)
		best := granted{}
		as := 0
		for bits := range 1 << len(l) {
			g := grantedOf(x, l, bits)
			word, e := night.Fits(x, l, g.indices)
			is(t, fmt.Sprint("Fits of ", g.indices, " of "+what), word, g.word)
			is(t, "error of Fits", e, api.OK)
			kinds[word]++
			if g.word != "" {
				continue
			}
			if g.value == best.value {
				as++
			}
			if g.before(best) {
				best = g
			}
		}
		if as > 1 {
			kinds["several"]++
		}
		got, value, e := night.Plan(x, l)
		are(t, "Plan of "+what, got, best.indices)
		is(t, "the value of Plan of "+what, value, best.value)
		is(t, "error of Plan", e, api.OK)
		for range 5 {
			prices := [2]int{r.Intn(one(r, 3, 10, 1001)), r.Intn(one(r, 3, 10, 1001))}
			want := prices[0] * x.Quota
			for minute := 0; minute < len(walked(x.Night)); minute += 60 {
				want += prices[1] * x.Rate
			}
			for _, y := range l {
				if net := y.Value - prices[0]*typeOf(x, y.Type).Count - prices[1]; net > 0 {
					want += net
				}
			}
			n, e := night.Bound(x, l, prices)
			is(t, fmt.Sprint("Bound of ", prices, " of "+what), n, want)
			is(t, "error of Bound", e, api.OK)
			is(t, fmt.Sprint("a bound below the best set of ", prices, " of "+what), n < value, false)
		}
	}
	for _, kind := range []string{"", "quota", "rate", "several"} {
		is(t, fmt.Sprint("many of all: ", kinds), kinds[kind] > 100, true)
	}
}
