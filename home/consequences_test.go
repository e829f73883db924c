package home_test

import (
	"fmt"
	"math/rand"
	"slices"
	"testing"

	"flyover/api"
	"flyover/home"
)

// indoor returns the indoor energy of a home without an error.
func indoor(t *testing.T, h home.Home) api.Interval {
	t.Helper()
	x, e := home.Indoor(h)
	is(t, fmt.Sprint("error of Indoor of ", h), e, api.OK)
	return x
}

// narrowed returns what passes in intervals within others.
func narrowed(r *rand.Rand, l [api.MaxBands]api.Interval) [api.MaxBands]api.Interval {
	for b, x := range l {
		low := from(r, x.Low, x.High)
		l[b] = to(low, from(r, low, x.High))
	}
	return l
}

// lessened returns what passes if it is less.
func lessened(r *rand.Rand, l [api.MaxBands]api.Interval) [api.MaxBands]api.Interval {
	for b, x := range l {
		high := r.Intn(x.High + 1)
		l[b] = to(r.Intn(min(x.Low, high)+1), high)
	}
	return l
}

// changedWindows returns a home whose windows let pass what f makes of it.
func changedWindows(h home.Home, f func(l [api.MaxBands]api.Interval) [api.MaxBands]api.Interval) home.Home {
	h.Windows = slices.Clone(h.Windows)
	for i := range h.Windows {
		h.Windows[i].Pass = f(h.Windows[i].Pass)
	}
	return h
}

// P8.5, P9: an indoor energy contains the one of each pass within the intervals, and a window that lets less pass has no greater one.
func TestIndoorContains(t *testing.T) {
	r := seeded()
	inside, less := 0, 0
	for range 3000 {
		h := someHome(r, "h", 4)
		x := indoor(t, h)
		y := indoor(t, changedWindows(h, func(l [api.MaxBands]api.Interval) [api.MaxBands]api.Interval { return narrowed(r, l) }))
		is(t, fmt.Sprint(y, " lies in ", x, " of ", h), x.Low <= y.Low && y.Low <= y.High && y.High <= x.High, true)
		z := indoor(t, changedWindows(h, func(l [api.MaxBands]api.Interval) [api.MaxBands]api.Interval { return lessened(r, l) }))
		is(t, fmt.Sprint(z, " is not above ", x, " of ", h), z.Low <= x.Low && z.High <= x.High, true)
		outdoor, _ := home.Outdoor(h)
		is(t, "no more comes in than the windows have outdoors", x.High <= outdoor*len(h.Windows), true)
		if y != x {
			inside++
		}
		if z != x {
			less++
		}
	}
	is(t, fmt.Sprint("many are others: ", inside, less), inside > 1000 && less > 1000, true)
}

// someSet returns a set of measures.
func someSet(r *rand.Rand, h home.Home, l []home.Measure) []int {
	var set []int
	for _, i := range r.Perm(len(l))[:r.Intn(len(l)+1)] {
		more := append(slices.Clone(set), i)
		slices.Sort(more)
		if _, e := home.After(h, l, more); e == api.OK {
			set = more
		}
	}
	return set
}

// P8.5, P9: no set that suffices costs less than the cheapest one, which suffices itself, and no bound is above its cost.
func TestNoSetIsCheaper(t *testing.T) {
	r := seeded()
	dearer, tight := 0, 0
	for range 1500 {
		h := someHome(r, "h", 4)
		l := someMeasures(r, h, 8)
		best, _ := home.After(h, l, someSet(r, h, l))
		target := indoor(t, best).High
		what := fmt.Sprint(target, h, l)
		set, cost, e := home.Cheapest(h, l, target)
		is(t, "error of Cheapest of "+what, e, api.OK)
		suffices, e := home.Suffices(h, l, set, target)
		is(t, "the cheapest set suffices for "+what, suffices, true)
		is(t, "error of Suffices of "+what, e, api.OK)
		sum := func(set []int) int {
			n := 0
			for _, i := range set {
				n += l[i].Cost
			}
			return n
		}
		is(t, "the cost of "+what, cost, sum(set))
		for range 10 {
			other := someSet(r, h, l)
			if suffices, _ := home.Suffices(h, l, other, target); suffices {
				is(t, fmt.Sprint(other, " is not cheaper than ", set, " for ", what), sum(other) >= cost, true)
				if sum(other) > cost {
					dearer++
				}
			}
		}
		for _, price := range []int{0, 1, 2, 5, r.Intn(100), r.Intn(100001), home.MaxPrice} {
			n, e := home.Bound(h, l, target, price)
			is(t, "error of Bound of "+what, e, api.OK)
			is(t, fmt.Sprint("the bound of ", price, " is not above ", cost, " for ", what), n <= cost, true)
			if n == cost && cost > 0 {
				tight++
			}
		}
		lower, dear, e := home.Cheapest(h, l, max(0, target-1))
		is(t, fmt.Sprint("a lower target is not cheaper: ", lower, what), e == api.ErrInfeasible || dear >= cost, true)
	}
	is(t, fmt.Sprint("many sets cost more, and many bounds are as great as the cost: ", dearer, tight), dearer > 500 && tight > 20, true)
}

// P8.5, P9: each eligible home has exactly one offer, which is the same in another order of the homes.
func TestOneOfferEach(t *testing.T) {
	r := seeded()
	moved := 0
	for range 1000 {
		l := someZones(r)
		homes, lists := someStreet(r, 8)
		what := fmt.Sprint(l, homes, lists)
		offers, e := home.Offers(l, homes, lists)
		is(t, "error of Offers of "+what, e, api.OK)
		for _, h := range homes {
			of := 0
			for _, x := range offers {
				if x.Home == h.Name {
					of++
				}
			}
			eligible, _ := home.Eligible(l, h)
			is(t, "the offers of "+h.Name+" of "+what, of, map[bool]int{true: 1}[eligible])
		}
		var others []home.Home
		var otherLists [][]home.Measure
		for _, i := range r.Perm(len(homes)) {
			others, otherLists = append(others, homes[i]), append(otherLists, lists[i])
		}
		again, e := home.Offers(l, others, otherLists)
		is(t, "error of Offers in another order of "+what, e, api.OK)
		is(t, "how many Offers in another order of "+what, len(again), len(offers))
		for _, x := range offers {
			at := slices.IndexFunc(again, func(y home.Offer) bool { return sameOffer(x, y) })
			is(t, fmt.Sprint(x, " is there in another order of ", what), at >= 0, true)
			if at >= 0 && !sameOffer(offers[at], x) {
				moved++
			}
		}
	}
	is(t, fmt.Sprint("many have another place: ", moved), moved > 100, true)
}

// P8.5: offers of which one is left out, doubled or changed are not right.
func TestNoOtherOffers(t *testing.T) {
	r := seeded()
	changed := 0
	for range 1000 {
		l := someZones(r)
		homes, lists := someStreet(r, 6)
		offers, _ := home.Offers(l, homes, lists)
		wrong := func(what string, changed []home.Offer) {
			t.Helper()
			is(t, fmt.Sprint(what, " is right: ", changed, l, homes, lists), home.CheckOffers(l, homes, lists, changed) == api.OK, false)
		}
		is(t, "CheckOffers of Offers", home.CheckOffers(l, homes, lists, offers), api.OK)
		for i, x := range offers {
			changed++
			wrong("one is left out", slices.Delete(slices.Clone(offers), i, i+1))
			wrong("one is doubled", slices.Insert(slices.Clone(offers), r.Intn(len(offers)+1), x))
			other := slices.Clone(offers)
			other[i].Amount += one(r, -1, 1)
			wrong("an amount is changed", other)
			other = slices.Clone(offers)
			other[i].Zone += "x"
			wrong("a zone is changed", other)
			other = slices.Clone(offers)
			other[i].Measures = append(slices.Clone(x.Measures), 7)
			wrong("measures are changed", other)
			other = slices.Clone(offers)
			other[i].Home = one(r, "nobody", offers[(i+1)%len(offers)].Home+"x")
			wrong("a home is changed", other)
		}
	}
	is(t, fmt.Sprint("many are changed: ", changed), changed > 500, true)
}

// P8.5, P9: a fund never pays what it does not have, nor twice for a home.
func TestFundsPayWhatTheyHave(t *testing.T) {
	r := seeded()
	paid := 0
	for range 3000 {
		l := someEntries(r, 12)
		balance, e := home.Balance(l)
		if e != api.OK {
			continue
		}
		homes := map[string]int{}
		for i, x := range l {
			before, e := home.Balance(l[:i])
			is(t, fmt.Sprint("error of Balance after ", i, " of ", l), e, api.OK)
			is(t, fmt.Sprint("Balance after ", i, " of ", l), before >= 0, true)
			if x.In {
				continue
			}
			paid++
			homes[x.Home]++
			is(t, fmt.Sprint("the fund has what it pays: ", i, l), x.Amount <= before, true)
			is(t, fmt.Sprint("a home is paid once: ", i, l), homes[x.Home], 1)
			_, e = home.Balance(append(slices.Clone(l), x))
			is(t, "error of Balance if a home is paid again", e, api.ErrTwice)
		}
		_, e = home.Balance(append(slices.Clone(l), out("new", balance+1)))
		is(t, fmt.Sprint("error of Balance if more than ", balance, " is paid after ", l), e, api.ErrOver)
	}
	is(t, fmt.Sprint("many are paid: ", paid), paid > 1000, true)
}

// P8.5: of the complaints of one home no two that are counted are within the window, and each other one has one before it that is.
func TestComplaintsAreCountedOnce(t *testing.T) {
	r := seeded()
	apart, near := 0, 0
	for range 3000 {
		l := someComplaints(r, 30)
		window := r.Intn(8)
		counted, e := home.Counted(l, window)
		is(t, "error of Counted", e, api.OK)
		is(t, fmt.Sprint("ascending indices of ", window, l), slices.IsSorted(counted), true)
		for i, c := range l {
			within := 0
			for _, j := range counted {
				if j < i && l[j].Home == c.Home && c.Tick-l[j].Tick <= window {
					within++
				}
			}
			if slices.Contains(counted, i) {
				apart++
				is(t, fmt.Sprint("counted ones near ", i, " of ", window, l), within, 0)
				continue
			}
			near++
			is(t, fmt.Sprint("counted ones before ", i, " of ", window, l), within, 1)
		}
	}
	is(t, fmt.Sprint("many are counted, and many are not: ", apart, near), apart > 1000 && near > 1000, true)
}

// P8.5: homes are parsed as they were printed, and strings are printed as they were parsed.
func TestPrintAndParse(t *testing.T) {
	r := seeded()
	parsed := 0
	for range 3000 {
		h := someHome(r, one(r, "h", "A_1", "aaaaaaaaaaaaaaaaaaaaaaaa"), 8)
		s, e := home.Print(h)
		is(t, "error of Print", e, api.OK)
		back, at, e := home.Parse(s)
		isHome(t, "Parse of Print", back, h)
		is(t, "index of Parse of Print", at, 0)
		is(t, "error of Parse of Print", e, api.OK)
		b := []byte(s)
		b[r.Intn(len(b))] = "\n 0129hw\xff"[r.Intn(9)]
		changed, _, e := home.Parse(string(b))
		if e != api.OK {
			is(t, "nothing beside the error", isNothing(changed), true)
			continue
		}
		parsed++
		again, e := home.Print(changed)
		is(t, "error of Print of Parse", e, api.OK)
		is(t, "Print of Parse", again, string(b))
	}
	is(t, fmt.Sprint("many are parsed: ", parsed), parsed > 500, true)
}
