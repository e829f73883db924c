package scenario

import (
	"cmp"
	"slices"

	"flyover/api"
	"flyover/check"
	"flyover/list"
)

// CheckChoices returns the first error of choices, or OK.
func CheckChoices(l []Choice) api.Errno {
	return check.Named(l, MaxChoices, func(c Choice, once check.Once) api.Errno {
		return check.First(checkName(c.Name), once(c.Name), check.Each(c.Scores[:], scores.check))
	})
}

// dominates reports whether a choice dominates another one.
func (c Choice) dominates(d Choice) bool {
	for i, score := range c.Scores {
		if score > d.Scores[i] {
			return false
		}
	}
	return c.Scores != d.Scores
}

// dominated reports whether one of some choices dominates another one.
func dominated(c Choice, by []Choice) bool {
	return slices.ContainsFunc(by, func(d Choice) bool { return d.dominates(c) })
}

// front returns the indices of that of choices.
func front(l []Choice) []int {
	var indices []int
	for i, c := range l {
		if !dominated(c, l) {
			indices = append(indices, i)
		}
	}
	return indices
}

// Front returns the indices of the front of choices.
func Front(l []Choice) ([]int, api.Errno) {
	if e := CheckChoices(l); e != api.OK {
		return nil, e
	}
	return front(l), api.OK
}

// Dominators returns the dominator of each choice.
func Dominators(l []Choice) ([]int, api.Errno) {
	if e := CheckChoices(l); e != api.OK {
		return nil, e
	}
	by := slices.Repeat([]int{None}, len(l))
	first := front(l)
search:
	for i, c := range l {
		for _, j := range first {
			if l[j].dominates(c) {
				by[i] = j
				continue search
			}
		}
	}
	return by, api.OK
}

// checkDominators returns the first error of dominators of choices, or OK.
func checkDominators(l []Choice, by []int) api.Errno {
	return check.First(
		check.That(len(by) == len(l), api.ErrShape),
		check.Each(by, func(i int) api.Errno {
			if i == None {
				return api.OK
			}
			return check.Index(l, i)
		}),
	)
}

// proven reports whether dominators prove which choices are in the front.
func proven(l []Choice, by []int) bool {
	var first []Choice
	for i, j := range by {
		if j == None {
			first = append(first, l[i])
			continue
		}
		if by[j] != None || !l[j].dominates(l[i]) {
			return false
		}
	}
	return !slices.ContainsFunc(first, func(c Choice) bool { return dominated(c, first) })
}

// CheckFront returns OK for dominators that prove a front.
func CheckFront(l []Choice, by []int) api.Errno {
	if e := check.First(CheckChoices(l), checkDominators(l, by)); e != api.OK {
		return e
	}
	return check.That(proven(l, by), api.ErrProof)
}

// weighted is a choice by its index, with its weighted sum.
type weighted struct {
	index int
	sum   int
}

// compare says which of two choices is ranked first: that one is before the other one.
func (x weighted) compare(y weighted) int {
	return cmp.Or(cmp.Compare(x.sum, y.sum), cmp.Compare(x.index, y.index))
}

// Ranked returns the indices of choices by their rank.
func Ranked(l []Choice, by [3]int) ([]int, api.Errno) {
	if e := check.First(CheckChoices(l), check.Each(by[:], weights.check)); e != api.OK {
		return nil, e
	}
	ranked := make([]weighted, len(l))
	for i, c := range l {
		ranked[i].index = i
		for k, weight := range by {
			ranked[i].sum += weight * c.Scores[k]
		}
	}
	slices.SortFunc(ranked, weighted.compare)
	return list.Mapped(ranked, func(x weighted) int { return x.index }), api.OK
}
