package home_test

import (
	"fmt"
	"math"
	"slices"
	"testing"

	"flyover/api"
	"flyover/home"
)

// glass returns measures for windows, each with a cost and what passes in all bands.
func glass(l ...[3]int) []home.Measure {
	all := several(len(l))
	for i, x := range l {
		all[i].Window, all[i].Cost, all[i].Pass = x[0], x[1], even(0, x[2])
	}
	return all
}

// P8.2: the cheapest sets. In the first window of H 1.5 times what passes comes in, in the second one 3 times.
func TestCheapest(t *testing.T) {
	eight := changedHouse(func(h *home.Home) {
		h.Windows = slices.Repeat([]home.Window{{Outside: api.Spectrum{100000000}, Area: 100, Pass: even(1000, 1000)}}, 8)
	})
	most := glass([3]int{0, 1000000}, [3]int{1, 1000000}, [3]int{2, 1000000}, [3]int{3, 1000000}, [3]int{4, 1000000}, [3]int{5, 1000000}, [3]int{6, 1000000}, [3]int{7, 1000000})
	for i, x := range []struct {
		h      home.Home
		l      []home.Measure
		target int
		set    []int
		cost   int
		e      api.Errno
	}{
		{house(), works(), 150, []int{1}, 100, api.OK}, {house(), works(), 149, []int{0}, 300, api.OK}, {house(), works(), 100, []int{0}, 300, api.OK}, {house(), works(), 90, []int{0}, 300, api.OK}, {house(), works(), 89, []int{0, 2}, 500, api.OK}, {house(), works(), 50, []int{0, 2}, 500, api.OK}, {house(), works(), 45, []int{0, 2}, 500, api.OK}, {house(), works(), 44, nil, 0, api.ErrInfeasible}, {house(), works(), 0, nil, 0, api.ErrInfeasible},
		{house(), works(), 360, nil, 0, api.OK}, {house(), works(), 359, []int{1}, 100, api.OK}, {house(), works(), api.MaxEnergy, nil, 0, api.OK}, {house(), nil, 360, nil, 0, api.OK}, {house(), nil, 359, nil, 0, api.ErrInfeasible},
		{eight, most, 0, []int{0, 1, 2, 3, 4, 5, 6, 7}, 8000000, api.OK}, {eight, most, 100000000, []int{0, 1, 2, 3, 4, 5, 6}, 7000000, api.OK}, {eight, most, 99999999, []int{0, 1, 2, 3, 4, 5, 6, 7}, 8000000, api.OK},
		// Of several sets the one with the least High.
		{house(), glass([3]int{0, 100, 60}, [3]int{0, 100, 20}, [3]int{0, 100, 40}), 200, []int{1}, 100, api.OK}, {house(), glass([3]int{0, 100, 20}, [3]int{1, 0, 10}), 200, []int{0, 1}, 100, api.OK}, {house(), glass([3]int{0, 100, 20}, [3]int{0, 50, 30}, [3]int{1, 50, 0}), 90, []int{1, 2}, 100, api.OK}, {house(), glass([3]int{1, 0, 30}), 400, nil, 0, api.OK}, {house(), glass([3]int{1, 0, 10}), 400, []int{0}, 0, api.OK},
		// Of several the first one: a beginning is before what goes on.
		{house(), glass([3]int{0, 100, 20}, [3]int{0, 100, 20}), 200, []int{0}, 100, api.OK}, {house(), glass([3]int{0, 100, 20}, [3]int{1, 0, 20}), 200, []int{0}, 100, api.OK}, {house(), glass([3]int{1, 0, 20}, [3]int{0, 100, 20}), 200, []int{0, 1}, 100, api.OK}, {house(), glass([3]int{0, 0, 200}), 400, nil, 0, api.OK}, {house(), glass([3]int{0, 100, 20}, [3]int{1, 100, 0}, [3]int{0, 100, 20}, [3]int{1, 100, 0}), 40, []int{0, 1}, 200, api.OK},
		{house(), glass([3]int{0, 2, 100}, [3]int{0, 1, 40}, [3]int{1, 1, 20}, [3]int{1, 0, 20}), 160, []int{1}, 1, api.OK}, {house(), glass([3]int{1, 0, 20}, [3]int{1, 0, 20}, [3]int{0, 1, 40}), 160, []int{0, 2}, 1, api.OK},
	} {
		set, cost, e := home.Cheapest(x.h, x.l, x.target)
		are(t, fmt.Sprint("Cheapest ", i), set, x.set)
		is(t, fmt.Sprint("the cost of Cheapest ", i), cost, x.cost)
		is(t, fmt.Sprint("error of Cheapest ", i), e, x.e)
	}
	inOrder(t, "Cheapest", func(a arguments) (api.Errno, bool) {
		set, cost, e := home.Cheapest(a.home, a.measures, a.target)
		return e, len(set) == 0 && cost == 0
	}, homeFaults(), measureFaults(), targetFaults(), []fault{{func(a *arguments) { a.target = 0 }, api.ErrInfeasible}})
}

// P8.2: the bounds of prices.
func TestBound(t *testing.T) {
	for i, x := range []struct {
		h      home.Home
		l      []home.Measure
		target int
		price  int
		n      int
		e      api.Errno
	}{
		{house(), works(), 100, 1, 150, api.OK}, {house(), works(), 100, 2, 200, api.OK}, {house(), works(), 100, 3, 250, api.OK}, {house(), works(), 100, 0, 0, api.OK}, {house(), works(), 100, 10, -50, api.OK}, {house(), works(), 50, 10, 450, api.OK}, {house(), works(), 400, 1, -150, api.OK}, {house(), works(), 0, 100000, 4500500, api.OK},
		{house(), nil, 359, 7, 7, api.OK}, {house(), nil, 360, 7, 0, api.OK}, {house(), nil, 0, 0, 0, api.OK}, {house(), works(), api.MaxEnergy, 100000, 4500500 - 1000000000000000000, api.OK}, {loudest(), nil, 0, 100000, 640000000000000, api.OK},
		// A choice with a cost of 0, a worse one, and several for one window.
		{house(), glass([3]int{0, 0, 20}, [3]int{0, 5, 1000}, [3]int{1, 1, 10}), 0, 1, 61, api.OK}, {house(), glass([3]int{1, 100, 0}, [3]int{1, 30, 10}, [3]int{1, 31, 10}), 100, 2, 490, api.OK}, {house(), glass([3]int{1, 100, 0}, [3]int{1, 50, 10}), 100, 4, 1200 + 100 - 400, api.OK},
		{house(), works(), 100, -1, 0, api.ErrRange}, {house(), works(), 100, 100001, 0, api.ErrRange}, {house(), works(), 100, math.MinInt, 0, api.ErrRange}, {house(), works(), -1, 1, 0, api.ErrRange},
	} {
		n, e := home.Bound(x.h, x.l, x.target, x.price)
		is(t, fmt.Sprint("Bound ", i), n, x.n)
		is(t, fmt.Sprint("error of Bound ", i), e, x.e)
	}
	inOrder(t, "Bound", func(a arguments) (api.Errno, bool) {
		n, e := home.Bound(a.home, a.measures, a.target, a.price)
		return e, n == 0
	}, homeFaults(), measureFaults(), targetFaults(), []fault{
		{func(a *arguments) { a.price = -1 }, api.ErrRange},
		{func(a *arguments) { a.price = 100001 }, api.ErrRange},
	})
}

// priced is a set by the definition, with its cost and its High.
type priced struct {
	set  []int
	cost int
	high int
}

// allPriced returns all sets of measures for a home.
func allPriced(h home.Home, l []home.Measure) []priced {
	var all []priced
	for bits := range 1 << len(l) {
		if set, ok := setOf(l, bits); ok {
			x := priced{set: set, high: indoorOf(afterOf(h, l, set)).High}
			for _, i := range set {
				x.cost += l[i].Cost
			}
			all = append(all, x)
		}
	}
	return all
}

// before reports whether a set is cheaper than another one.
func (x priced) before(y priced) bool {
	if x.cost != y.cost {
		return x.cost < y.cost
	}
	if x.high != y.high {
		return x.high < y.high
	}
	for i := range min(len(x.set), len(y.set)) {
		if x.set[i] != y.set[i] {
			return x.set[i] < y.set[i]
		}
	}
	return len(x.set) < len(y.set)
}

// cheapestOf returns the cheapest one of sets for a target, and whether there is one.
func cheapestOf(all []priced, target int) (priced, bool) {
	var best priced
	found := false
	for _, x := range all {
		if x.high <= target && (!found || x.before(best)) {
			best, found = x, true
		}
	}
	return best, found
}

// P8.2, P8.5: the cheapest set and the bounds by the definition, among all sets: a bound is the least cost and price of any set, less the price of the target.
func TestCostsByDefinition(t *testing.T) {
	r := seeded()
	kinds := map[string]int{}
	for range 1500 {
		h := someHome(r, "h", 4)
		l := someMeasures(r, h, 8)
		all := allPriced(h, l)
		for range 5 {
			target := max(0, one(r, all...).high+from(r, -1, 1))
			what := fmt.Sprint(target, h, l)
			best, ok := cheapestOf(all, target)
			set, cost, e := home.Cheapest(h, l, target)
			are(t, "Cheapest of "+what, set, best.set)
			is(t, "the cost of Cheapest of "+what, cost, best.cost)
			is(t, "Cheapest finds "+what, e, map[bool]api.Errno{true: api.OK, false: api.ErrInfeasible}[ok])
			price := r.Intn(one(r, 2, 10, 1000, 100001))
			want := math.MaxInt
			for _, x := range all {
				want = min(want, x.cost+price*x.high-price*target)
			}
			n, e := home.Bound(h, l, target, price)
			is(t, fmt.Sprint("Bound of ", price, what), n, want)
			is(t, "error of Bound", e, api.OK)
			as := 0
			for _, x := range all {
				if x.high <= target && x.cost == best.cost {
					as++
				}
			}
			kinds[fmt.Sprint("sets ", min(2, as))]++
			kinds[fmt.Sprint("measures ", min(2, len(set)))]++
		}
	}
	for _, kind := range []string{"sets 0", "sets 1", "sets 2", "measures 0", "measures 1", "measures 2"} {
		is(t, fmt.Sprint("many of all: ", kinds), kinds[kind] > 100, true)
	}
}
