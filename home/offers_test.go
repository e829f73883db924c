package home_test

import (
	"fmt"
	"math"
	"math/rand"
	"slices"
	"strconv"
	"testing"

	"flyover/api"
	"flyover/home"
)

// longStreet returns n homes like H, and M for each of them.
func longStreet(n int) ([]home.Home, [][]home.Measure) {
	var homes []home.Home
	var lists [][]home.Measure
	for i := range n {
		homes = append(homes, changedHouse(func(h *home.Home) { h.Name = "h" + strconv.Itoa(i) }))
		lists = append(lists, works())
	}
	return homes, lists
}

// P8.2: the offers for homes.
func TestOffers(t *testing.T) {
	target := func(n, share int) []home.Zone {
		return changedZones(func(l []home.Zone) { l[1].Target, l[1].Share = n, share })
	}
	offer := func(amount int, measures ...int) []home.Offer {
		return []home.Offer{{Home: "h", Zone: "high", Measures: measures, Amount: amount}}
	}
	for i, x := range []struct {
		zones  []home.Zone
		homes  []home.Home
		lists  [][]home.Measure
		offers []home.Offer
	}{
		{zones(), street(), lists(), offers()}, {zones(), nil, nil, nil}, {zones(), street()[1:2], lists()[1:2], nil}, {zones(), street()[:1], lists()[:1], offers()[:1]}, {zones(), street()[:1], [][]home.Measure{nil}, offer(0)},
		{target(50, 80), street()[:1], lists()[:1], offer(400, 0, 2)}, {target(150, 80), street()[:1], lists()[:1], offer(80, 1)}, {target(44, 80), street()[:1], lists()[:1], offer(0)}, {target(100, 0), street()[:1], lists()[:1], offer(0, 0)}, {target(100, 100), street()[:1], lists()[:1], offer(300, 0)}, {target(360, 100), street()[:1], lists()[:1], nil},
		// The amount is rounded down.
		{target(150, 33), street()[:1], [][]home.Measure{changedWorks(func(l []home.Measure) { l[1].Cost = 5 })}, offer(1, 1)}, {target(150, 99), street()[:1], [][]home.Measure{changedWorks(func(l []home.Measure) { l[1].Cost = 1 })}, offer(0, 1)}, {target(150, 100), street()[:1], [][]home.Measure{changedWorks(func(l []home.Measure) { l[1].Cost = 0 })}, offer(0, 1)}, {target(150, 99), street()[:1], [][]home.Measure{changedWorks(func(l []home.Measure) { l[0].Cost, l[1].Cost = 1000000, 1000000 })}, offer(990000, 0)},
		// By another zone.
		{[]home.Zone{{Name: "low", From: 20, Share: 50, Target: 100}, {Name: "high", From: 25}}, street()[:1], lists()[:1], []home.Offer{{Home: "h", Zone: "low", Measures: []int{0}, Amount: 150}}},
	} {
		l, e := home.Offers(x.zones, x.homes, x.lists)
		areOffers(t, fmt.Sprint("Offers ", i), l, x.offers)
		is(t, fmt.Sprint("error of Offers ", i), e, api.OK)
		is(t, fmt.Sprint("CheckOffers ", i), home.CheckOffers(x.zones, x.homes, x.lists, l), api.OK)
	}
	homes, all := longStreet(16)
	l, e := home.Offers(zones(), homes, all)
	is(t, "how many Offers", len(l), 16)
	is(t, "error of Offers of the longest street", e, api.OK)
	for i, x := range l {
		is(t, "an offer of the longest street", sameOffer(x, home.Offer{Home: "h" + strconv.Itoa(i), Zone: "high", Measures: []int{0}, Amount: 240}), true)
	}
	homes, all = longStreet(17)
	_, e = home.Offers(zones(), homes, all)
	is(t, "error of Offers of a street that is too long", e, api.ErrMany)
	_, e = home.Offers(zones(), nil, all)
	is(t, "error of Offers of lists without homes", e, api.ErrShape)
	_, e = home.Offers(zones(), homes[:16], all)
	is(t, "error of Offers of too many lists", e, api.ErrShape)
	inOrder(t, "Offers", func(a arguments) (api.Errno, bool) {
		l, e := home.Offers(a.zones, a.homes, a.lists)
		return e, len(l) == 0
	}, zoneFaults(), streetFaults())
}

// P8.2: offers that are right, and what is wrong with others.
func TestCheckOffers(t *testing.T) {
	change := func(f func(x *home.Offer)) []home.Offer {
		l := offers()
		f(&l[0])
		return l
	}
	h, far := offers()[0], offers()[1]
	named := func(name string) home.Offer { return home.Offer{Home: name, Zone: "high"} }
	for i, x := range []struct {
		l []home.Offer
		e api.Errno
	}{
		{offers(), api.OK}, {[]home.Offer{h, {Home: "far", Zone: "high", Measures: []int{}}}, api.OK}, {nil, api.ErrOpen}, {[]home.Offer{h}, api.ErrOpen}, {make([]home.Offer, 17), api.ErrMany}, {make([]home.Offer, 16), api.ErrUnknown},
		{[]home.Offer{named("nobody")}, api.ErrUnknown}, {[]home.Offer{named("H")}, api.ErrUnknown}, {[]home.Offer{h, far, named("")}, api.ErrUnknown}, {[]home.Offer{h, named("nobody"), far}, api.ErrUnknown},
		{[]home.Offer{h, h}, api.ErrTwice}, {[]home.Offer{h, far, h}, api.ErrTwice}, {[]home.Offer{h, far, far}, api.ErrTwice}, {[]home.Offer{h, {Home: "h"}}, api.ErrTwice},
		{[]home.Offer{named("calm")}, api.ErrRight}, {[]home.Offer{h, named("calm"), far}, api.ErrRight}, {[]home.Offer{h, far, named("quiet")}, api.ErrRight}, {[]home.Offer{h, far, named("calm"), named("calm")}, api.ErrRight},
		{[]home.Offer{far, h}, api.ErrOrder}, {[]home.Offer{far}, api.ErrOrder}, {[]home.Offer{{Home: "far"}}, api.ErrOrder}, {[]home.Offer{far, far}, api.ErrOrder},
		{change(func(x *home.Offer) { x.Zone = "low" }), api.ErrProof}, {change(func(x *home.Offer) { x.Zone = "" }), api.ErrProof}, {change(func(x *home.Offer) { x.Amount = 241 }), api.ErrProof}, {change(func(x *home.Offer) { x.Amount = math.MinInt }), api.ErrProof},
		{change(func(x *home.Offer) { x.Measures = nil }), api.ErrProof}, {change(func(x *home.Offer) { x.Measures = []int{1} }), api.ErrProof}, {change(func(x *home.Offer) { x.Measures = []int{0, 2} }), api.ErrProof}, {change(func(x *home.Offer) { x.Measures = []int{0, 0} }), api.ErrProof}, {change(func(x *home.Offer) { x.Measures = []int{-1} }), api.ErrProof}, {change(func(x *home.Offer) { x.Measures = make([]int, 100) }), api.ErrProof},
		{[]home.Offer{h, {Home: "far", Zone: "high", Measures: []int{0}}}, api.ErrProof}, {[]home.Offer{h, {Home: "far", Zone: "high", Amount: 80}}, api.ErrProof},
		// The first offer that is wrong decides.
		{[]home.Offer{{Home: "h"}, named("nobody")}, api.ErrProof}, {[]home.Offer{h, h, named("nobody")}, api.ErrTwice}, {[]home.Offer{far, named("nobody")}, api.ErrOrder}, {[]home.Offer{named("nobody"), far}, api.ErrUnknown},
	} {
		is(t, fmt.Sprint("CheckOffers ", i), home.CheckOffers(zones(), street(), lists(), x.l), x.e)
	}
	is(t, "CheckOffers of nothing", home.CheckOffers(zones(), nil, nil, nil), api.OK)
	is(t, "CheckOffers of no home", home.CheckOffers(zones(), nil, nil, offers()), api.ErrUnknown)
	homes, all := longStreet(16)
	l, _ := home.Offers(zones(), homes, all)
	is(t, "CheckOffers of the longest street", home.CheckOffers(zones(), homes, all, l), api.OK)
	is(t, "CheckOffers of one more", home.CheckOffers(zones(), homes, all, append(l, l[0])), api.ErrMany)
	inOrder(t, "CheckOffers", func(a arguments) (api.Errno, bool) {
		return home.CheckOffers(a.zones, a.homes, a.lists, a.offers), true
	}, zoneFaults(), streetFaults(), []fault{
		{func(a *arguments) { a.offers = make([]home.Offer, 17) }, api.ErrMany},
		{func(a *arguments) { a.offers[0].Home = "nobody" }, api.ErrUnknown},
		{func(a *arguments) { a.offers = a.offers[:1] }, api.ErrOpen},
	})
}

// offersByDefinition returns the right offers.
func offersByDefinition(l []home.Zone, homes []home.Home, lists [][]home.Measure) []home.Offer {
	var all []home.Offer
	for i, h := range homes {
		zone := eligibleByDefinition(l, h)
		if zone < 0 {
			continue
		}
		o := home.Offer{Home: h.Name, Zone: l[zone].Name}
		if best, ok := cheapestOf(allPriced(h, lists[i]), l[zone].Target); ok {
			o.Measures, o.Amount = best.set, best.cost*l[zone].Share/100
		}
		all = append(all, o)
	}
	return all
}

// wrongWith returns the error of offers by the definition.
func wrongWith(homes []home.Home, right, l []home.Offer) api.Errno {
	given := func(name string, l []home.Offer) bool {
		return slices.ContainsFunc(l, func(x home.Offer) bool { return x.Home == name })
	}
	for i, x := range l {
		own := slices.IndexFunc(homes, func(h home.Home) bool { return h.Name == x.Home })
		if own < 0 {
			return api.ErrUnknown
		}
		if given(x.Home, l[:i]) {
			return api.ErrTwice
		}
		if !given(x.Home, right) {
			return api.ErrRight
		}
		for _, h := range homes[:own] {
			if given(h.Name, right) && !given(h.Name, l[:i]) {
				return api.ErrOrder
			}
		}
		if !slices.ContainsFunc(right, func(y home.Offer) bool { return sameOffer(x, y) }) {
			return api.ErrProof
		}
	}
	for _, x := range right {
		if !given(x.Home, l) {
			return api.ErrOpen
		}
	}
	return api.OK
}

// changedOffers returns offers with a change.
func changedOffers(r *rand.Rand, homes []home.Home, l []home.Offer) []home.Offer {
	l = slices.Clone(l)
	i, j := r.Intn(len(l)), r.Intn(len(l))
	switch r.Intn(7) {
	case 0:
		return slices.Delete(l, i, i+1)
	case 1:
		return slices.Insert(l, j, l[i])
	case 2:
		l[i], l[j] = l[j], l[i]
	case 3:
		l[i].Amount++
	case 4:
		l[i].Measures = append(slices.Clone(l[i].Measures), r.Intn(8))
	case 5:
		l[i].Home = one(r, "nobody", one(r, homes...).Name)
	case 6:
		return slices.Insert(l, i, home.Offer{Home: one(r, homes...).Name, Zone: "z0"})
	}
	return l
}

// P8.2: offers, and what is wrong with changed ones, by the definition.
func TestOffersByDefinition(t *testing.T) {
	r := seeded()
	kinds := map[api.Errno]int{}
	for range 1500 {
		l := someZones(r)
		homes, lists := someStreet(r, 6)
		what := fmt.Sprint(l, homes, lists)
		right := offersByDefinition(l, homes, lists)
		offers, e := home.Offers(l, homes, lists)
		areOffers(t, "Offers of "+what, offers, right)
		is(t, "error of Offers of "+what, e, api.OK)
		is(t, "CheckOffers of "+what, home.CheckOffers(l, homes, lists, offers), api.OK)
		for range 6 {
			if len(offers) == 0 {
				break
			}
			offers = changedOffers(r, homes, offers)
			e := wrongWith(homes, right, offers)
			is(t, fmt.Sprint("CheckOffers of ", offers, " of ", what), home.CheckOffers(l, homes, lists, offers), e)
			kinds[e]++
		}
	}
	for _, e := range []api.Errno{api.OK, api.ErrUnknown, api.ErrTwice, api.ErrRight, api.ErrOrder, api.ErrProof, api.ErrOpen} {
		is(t, fmt.Sprint("many of all: ", kinds), kinds[e] > 30, true)
	}
}
