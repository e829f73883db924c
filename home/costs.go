package home

import (
	"cmp"
	"iter"
	"slices"

	"flyover/api"
	"flyover/check"
	"flyover/sound"
)

// set is measures of which no two are for one window.
type set struct {
	indices []int
}

// plan is a set with its cost, and the High of the indoor energy after it.
type plan struct {
	set
	cost int
	high int
}

// compare says which of two plans is cheaper: that one is before the other one.
func (x plan) compare(y plan) int {
	return cmp.Or(cmp.Compare(x.cost, y.cost), cmp.Compare(x.high, y.high), slices.Compare(x.indices, y.indices))
}

// sets visits all those of measures.
func sets(l []Measure) iter.Seq[set] {
	return func(yield func(set) bool) {
		for bits := range 1 << len(l) {
			var indices []int
			for i := range l {
				if bits>>i&1 == 1 {
					indices = append(indices, i)
				}
			}
			if !conflict(l, indices) && !yield(set{indices}) {
				return
			}
		}
	}
}

// plan returns that of a set of measures for a home.
func (h Home) plan(l []Measure, x set) plan {
	cost := 0
	for _, i := range x.indices {
		cost += l[i].Cost
	}
	return plan{x, cost, h.after(l, x.indices).indoor().High}
}

// cheapest returns the plan of the cheapest set for a target, and whether there is one.
func (h Home) cheapest(l []Measure, target int) (plan, bool) {
	var sufficing []plan
	for x := range sets(l) {
		if p := h.plan(l, x); p.high <= target {
			sufficing = append(sufficing, p)
		}
	}
	if len(sufficing) == 0 {
		return plan{}, false
	}
	return slices.MinFunc(sufficing, plan.compare), true
}

// Cheapest returns the cheapest set for a target, and its cost.
func Cheapest(h Home, l []Measure, target int) ([]int, int, api.Errno) {
	if e := check.First(CheckMeasures(h, l), sound.CheckEnergy(target)); e != api.OK {
		return nil, 0, e
	}
	best, ok := h.cheapest(l, target)
	if !ok {
		return nil, 0, api.ErrInfeasible
	}
	return best.indices, best.cost, api.OK
}

// bound returns that of a price for a target.
func (h Home) bound(l []Measure, target, price int) int {
	sum := -price * target
	for i, w := range h.Windows {
		least := price * w.indoor().High
		for _, m := range l {
			if m.Window == i {
				least = min(least, m.Cost+price*w.with(m).indoor().High)
			}
		}
		sum += least
	}
	return sum
}

// Bound returns the bound of a price for a target.
func Bound(h Home, l []Measure, target, price int) (int, api.Errno) {
	if e := check.First(CheckMeasures(h, l), sound.CheckEnergy(target), check.Within(price, 0, MaxPrice)); e != api.OK {
		return 0, e
	}
	return h.bound(l, target, price), api.OK
}
