package scenario_test

import (
	"fmt"
	"math"
	"slices"
	"strings"
	"testing"

	"flyover/api"
	"flyover/scenario"
)

// options returns choices with scores, of which each has three.
func options(l ...int) []scenario.Choice {
	var c []scenario.Choice
	for x := range slices.Chunk(l, 3) {
		c = append(c, choice("c"+string(rune('a'+len(c))), x[0], x[1], x[2]))
	}
	return c
}

// P9.4: the errors of choices.
func TestCheckChoices(t *testing.T) {
	for i, x := range []struct {
		l []scenario.Choice
		e api.Errno
	}{
		{four(), api.OK}, {nil, api.OK}, {options(alike(48, 5)...), api.OK}, {options(alike(51, 5)...), api.ErrMany}, {make([]scenario.Choice, 17), api.ErrMany}, {make([]scenario.Choice, 16), api.ErrName},
		{[]scenario.Choice{choice("", 1, 1, 1)}, api.ErrName}, {[]scenario.Choice{choice(strings.Repeat("a", 24), 1, 1, 1)}, api.OK}, {[]scenario.Choice{choice(strings.Repeat("a", 25), 1, 1, 1)}, api.ErrName}, {[]scenario.Choice{choice("a", 1, 1, 1), choice("a", -1, 1, 1)}, api.ErrTwice}, {[]scenario.Choice{choice("a", 1, 1, 1), choice("A", 1, 1, 1)}, api.OK},
		{options(0, 0, 0, 1000000000, 1000000000, 1000000000), api.OK}, {options(-1, 0, 0), api.ErrRange}, {options(0, -1, 0), api.ErrRange}, {options(0, 0, -1), api.ErrRange}, {options(1000000001, 0, 0), api.ErrRange}, {options(0, 1000000001, 0), api.ErrRange}, {options(0, 0, 1000000001), api.ErrRange}, {options(math.MaxInt, math.MinInt, 0), api.ErrRange},
		// The first choice with an error decides, and of its errors the first one.
		{[]scenario.Choice{choice("a", 1, 1, -1), choice("", 1, 1, 1)}, api.ErrRange}, {[]scenario.Choice{choice("7", -1, 1, 1)}, api.ErrName},
	} {
		is(t, fmt.Sprint("CheckChoices ", i), scenario.CheckChoices(x.l), x.e)
	}
	inOrder(t, "CheckChoices", func(a arguments) (api.Errno, bool) { return scenario.CheckChoices(a.choices), true }, choiceFaults())
}

// P9.4: the front and the dominators.
func TestFront(t *testing.T) {
	const top = scenario.MaxScore
	for i, x := range []struct {
		l         []scenario.Choice
		front, by []int
	}{
		{four(), []int{0, 2, 3}, []int{-1, 0, -1, -1}}, {nil, nil, nil}, {options(1, 2, 3), []int{0}, []int{-1}}, {options(1, 2, 3, 1, 2, 3), []int{0, 1}, []int{-1, -1}}, {options(1, 2, 3, 3, 2, 1), []int{0, 1}, []int{-1, -1}},
		{options(1, 2, 4, 1, 2, 3), []int{1}, []int{1, -1}}, {options(1, 3, 3, 1, 2, 3), []int{1}, []int{1, -1}}, {options(2, 2, 3, 1, 2, 3), []int{1}, []int{1, -1}}, {options(0, 0, 0, top, top, top), []int{0}, []int{-1, 0}},
		// A dominator is in the front, also where others dominate, too, and the first one of those.
		{options(5, 5, 5, 4, 4, 4, 3, 3, 3, 0, 9, 9), []int{2, 3}, []int{2, 2, -1, -1}}, {options(5, 5, 5, 4, 4, 4), []int{1}, []int{1, -1}}, {options(2, 2, 2, 3, 3, 3, 4, 4, 4), []int{0}, []int{-1, 0, 0}}, {options(1, 2, 9, 2, 1, 9, 2, 2, 9, 1, 2, 9), []int{0, 1, 3}, []int{-1, -1, 0, -1}}, {options(9, 1, 5, 5, 5, 5, 4, 6, 5, 5, 4, 5, 5, 5, 4), []int{0, 2, 3, 4}, []int{-1, 3, -1, -1, -1}},
		{options(alike(48, 7)...), []int{0, 1, 2, 3, 4, 5, 6, 7, 8, 9, 10, 11, 12, 13, 14, 15}, alike(16, -1)},
	} {
		front, e1 := scenario.Front(x.l)
		by, e2 := scenario.Dominators(x.l)
		are(t, fmt.Sprint("Front ", i), front, x.front)
		are(t, fmt.Sprint("Dominators ", i), by, x.by)
		are(t, fmt.Sprint("errors of Front and Dominators ", i), []api.Errno{e1, e2}, alike(2, api.OK))
		is(t, fmt.Sprint("CheckFront of Dominators ", i), scenario.CheckFront(x.l, by), api.OK)
	}
	inOrder(t, "Front", func(a arguments) (api.Errno, bool) {
		l, e := scenario.Front(a.choices)
		return e, len(l) == 0
	}, choiceFaults())
	inOrder(t, "Dominators", func(a arguments) (api.Errno, bool) {
		l, e := scenario.Dominators(a.choices)
		return e, len(l) == 0
	}, choiceFaults())
}

// P9.4: proofs of a front.
func TestCheckFront(t *testing.T) {
	chain := options(5, 5, 5, 4, 4, 4, 3, 3, 3, 0, 9, 9)
	for i, x := range []struct {
		l  []scenario.Choice
		by []int
		e  api.Errno
	}{
		{four(), []int{-1, 0, -1, -1}, api.OK}, {four(), []int{-1, 3, -1, -1}, api.OK}, {four(), []int{-1, 2, -1, -1}, api.ErrProof}, {four(), []int{-1, -1, -1, -1}, api.ErrProof}, {four(), []int{-1, 1, -1, -1}, api.ErrProof}, {four(), []int{3, 0, -1, -1}, api.ErrProof}, {four(), []int{3, 3, -1, -1}, api.ErrProof}, {four(), []int{-1, 0, 0, -1}, api.ErrProof}, {four(), []int{0, 0, -1, -1}, api.ErrProof}, {four(), []int{1, 0, -1, -1}, api.ErrProof},
		{chain, []int{2, 2, -1, -1}, api.OK}, {chain, []int{1, 2, -1, -1}, api.ErrProof}, {chain, []int{1, -1, -1, -1}, api.ErrProof}, {chain, []int{-1, 2, -1, -1}, api.ErrProof}, {chain, []int{2, -1, -1, -1}, api.ErrProof}, {chain, []int{2, 2, 3, -1}, api.ErrProof}, {chain, []int{2, 2, -1, 2}, api.ErrProof}, {nil, nil, api.OK}, {options(1, 2, 3), []int{-1}, api.OK}, {options(1, 2, 3), []int{0}, api.ErrProof}, {options(1, 2, 3, 1, 2, 3), []int{-1, -1}, api.OK}, {options(1, 2, 3, 1, 2, 3), []int{1, -1}, api.ErrProof}, {options(1, 2, 3, 1, 2, 3), []int{1, 0}, api.ErrProof},
		{four(), []int{-1, 0, -1}, api.ErrShape}, {four(), []int{-1, 0, -1, -1, -1}, api.ErrShape}, {four(), nil, api.ErrShape}, {nil, []int{-1}, api.ErrShape}, {four(), []int{-2, 9, 9}, api.ErrShape}, {four(), []int{-1, 4, -1, -1}, api.ErrUnknown}, {four(), []int{-1, 0, -1, -2}, api.ErrUnknown}, {four(), []int{3, 1, -1, math.MaxInt}, api.ErrUnknown}, {four(), []int{math.MinInt, 0, -1, -1}, api.ErrUnknown},
	} {
		is(t, fmt.Sprint("CheckFront ", i), scenario.CheckFront(x.l, x.by), x.e)
	}
	inOrder(t, "CheckFront", func(a arguments) (api.Errno, bool) { return scenario.CheckFront(a.choices, a.by), true }, choiceFaults(), []fault{
		{func(a *arguments) { a.by = []int{7} }, api.ErrShape},
		{func(a *arguments) { a.by[0] = 4 }, api.ErrUnknown},
		{func(a *arguments) { a.by[3] = -2 }, api.ErrUnknown},
		{func(a *arguments) { a.by[1] = 2 }, api.ErrProof},
	})
}

// P9.4: choices that are ranked.
func TestRanked(t *testing.T) {
	const top = scenario.MaxScore
	for i, x := range []struct {
		l       []scenario.Choice
		weights [3]int
		want    []int
		e       api.Errno
	}{
		{four(), [3]int{1, 1, 1}, []int{0, 3, 1, 2}, api.OK}, {four(), [3]int{1, 0, 0}, []int{2, 0, 3, 1}, api.OK}, {four(), [3]int{0, 1, 0}, []int{0, 1, 3, 2}, api.OK}, {four(), [3]int{0, 0, 1}, []int{0, 1, 3, 2}, api.OK}, {four(), [3]int{}, []int{0, 1, 2, 3}, api.OK}, {four(), [3]int{1000, 1, 0}, []int{2, 0, 3, 1}, api.OK}, {four(), [3]int{4, 1, 0}, []int{0, 2, 3, 1}, api.OK}, {nil, [3]int{1, 1, 1}, nil, api.OK},
		{options(top, top, top, top-1, top, top, top, top-1, top, top, top, top-1), [3]int{1000, 999, 1000}, []int{1, 3, 2, 0}, api.OK}, {options(3, 0, 0, 2, 0, 0, 1, 0, 0, 2, 0, 0), [3]int{1, 0, 0}, []int{2, 1, 3, 0}, api.OK},
		{four(), [3]int{1001, 0, 0}, nil, api.ErrRange}, {four(), [3]int{0, 1001, 0}, nil, api.ErrRange}, {four(), [3]int{0, 0, 1001}, nil, api.ErrRange}, {four(), [3]int{-1, 0, 0}, nil, api.ErrRange}, {four(), [3]int{0, -1, 0}, nil, api.ErrRange}, {four(), [3]int{0, 0, -1}, nil, api.ErrRange}, {nil, [3]int{math.MinInt, math.MaxInt, 0}, nil, api.ErrRange},
	} {
		l, e := scenario.Ranked(x.l, x.weights)
		are(t, fmt.Sprint("Ranked ", i), l, x.want)
		is(t, fmt.Sprint("error of Ranked ", i), e, x.e)
	}
	inOrder(t, "Ranked", func(a arguments) (api.Errno, bool) {
		l, e := scenario.Ranked(a.choices, a.weights)
		return e, len(l) == 0
	}, choiceFaults(), []fault{
		{func(a *arguments) { a.weights[0] = 1001 }, api.ErrRange},
		{func(a *arguments) { a.weights[2] = -1 }, api.ErrRange},
	})
}

// dominates reports whether a choice dominates another one, by the definition.
func dominates(c, d scenario.Choice) bool {
	less := 0
	for i := range 3 {
		if c.Scores[i] > d.Scores[i] {
			return false
		}
		if c.Scores[i] < d.Scores[i] {
			less++
		}
	}
	return less > 0
}

// proves reports whether dominators prove a front, by the definition.
func proves(l []scenario.Choice, by []int) bool {
	for i, j := range by {
		if j >= 0 && (by[j] >= 0 || !dominates(l[j], l[i])) {
			return false
		}
		for k, m := range by {
			if j < 0 && m < 0 && dominates(l[i], l[k]) {
				return false
			}
		}
	}
	return true
}

// P9.4: fronts, dominators, proofs and ranks, by the definition.
func TestChoicesByDefinition(t *testing.T) {
	r := seeded()
	kinds := map[string]int{}
	for range 3000 {
		l := someChoices(r, 16)
		what := fmt.Sprint(" of ", l)
		var front []int
		for i, c := range l {
			if !slices.ContainsFunc(l, func(d scenario.Choice) bool { return dominates(d, c) }) {
				front = append(front, i)
			}
		}
		by := alike(len(l), scenario.None)
		for i, c := range l {
			if at := slices.IndexFunc(front, func(j int) bool { return dominates(l[j], c) }); at >= 0 {
				by[i] = front[at]
			}
		}
		got, e := scenario.Front(l)
		are(t, "Front"+what, got, front)
		is(t, "error of Front"+what, e, api.OK)
		got, e = scenario.Dominators(l)
		are(t, "Dominators"+what, got, by)
		is(t, "error of Dominators"+what, e, api.OK)
		for range 2 {
			if len(l) > 0 {
				by[r.Intn(len(l))] = r.Intn(len(l)+1) - 1
			}
			right := proves(l, by)
			want := api.OK
			if !right {
				want = api.ErrProof
			}
			is(t, fmt.Sprint("CheckFront ", by, what), scenario.CheckFront(l, by), want)
			kinds[fmt.Sprint("proven: ", right)]++
		}
		weights := [3]int{r.Intn(3), one(r, 0, 1, 1000), r.Intn(1001)}
		sum := func(i int) int {
			return weights[0]*l[i].Scores[0] + weights[1]*l[i].Scores[1] + weights[2]*l[i].Scores[2]
		}
		var rank []int
		for i := range l {
			// Each one comes before the first one whose sum is greater.
			at := slices.IndexFunc(rank, func(j int) bool { return sum(j) > sum(i) })
			if at < 0 {
				at = len(rank)
			}
			rank = slices.Insert(rank, at, i)
		}
		got, e = scenario.Ranked(l, weights)
		are(t, fmt.Sprint("Ranked ", weights, what), got, rank)
		is(t, "error of Ranked"+what, e, api.OK)
	}
	is(t, fmt.Sprint("some are proven, and many are not: ", kinds), kinds["proven: true"] > 500 && kinds["proven: false"] > 500, true)
}
