package home

import (
	"slices"

	"flyover/api"
	"flyover/check"
	"flyover/number"
)

// terms are what an offer says, but for its measures.
type terms struct {
	home   string
	zone   string
	amount int
}

func (o Offer) terms() terms {
	return terms{o.Home, o.Zone, o.Amount}
}

// same reports whether two offers are the same.
func (o Offer) same(p Offer) bool {
	return o.terms() == p.terms() && slices.Equal(o.Measures, p.Measures)
}

// offer returns that for a home which is eligible by a zone.
func (z Zone) offer(h Home, l []Measure) Offer {
	// If no set suffices, this has no measures, and costs nothing.
	best, _ := h.cheapest(l, z.Target)
	return Offer{Home: h.Name, Zone: z.Name, Measures: best.indices, Amount: number.Down(best.cost*z.Share, percent)}
}

// offered returns the offers for all eligible homes.
func offered(l []Zone, homes []Home, measures [][]Measure) []Offer {
	var all []Offer
	for i, h := range homes {
		if z, ok := h.eligible(l); ok {
			all = append(all, z.offer(h, measures[i]))
		}
	}
	return all
}

// checkHomes returns the first error of homes, or OK.
func checkHomes(l []Home) api.Errno {
	return check.Named(l, MaxHomes, func(h Home, once check.Once) api.Errno {
		return check.First(CheckHome(h), once(h.Name))
	})
}

// checkLists returns the first error of lists of measures for homes, or OK.
func checkLists(homes []Home, l [][]Measure) api.Errno {
	if len(l) != len(homes) {
		return api.ErrShape
	}
	for i, h := range homes {
		if e := CheckMeasures(h, l[i]); e != api.OK {
			return e
		}
	}
	return api.OK
}

// checkAll returns the first error of zones, homes and lists of measures, or OK.
func checkAll(l []Zone, homes []Home, measures [][]Measure) api.Errno {
	return check.First(CheckZones(l), checkHomes(homes), checkLists(homes, measures))
}

// Offers returns the offers for homes.
func Offers(l []Zone, homes []Home, measures [][]Measure) ([]Offer, api.Errno) {
	if e := checkAll(l, homes, measures); e != api.OK {
		return nil, e
	}
	return offered(l, homes, measures), api.OK
}

// claim is an offer that may be wrong, with its index.
type claim struct {
	Offer
	at int
}

// faults returns those of an offer after offers without any: these are the first ones of the right offers.
func faults(homes []Home, right []Offer) []check.Fault[claim, api.Errno] {
	// The index of the right offer, or none, for the name of each home.
	place := map[string]int{}
	for _, h := range homes {
		place[h.Name] = none
	}
	for i, o := range right {
		place[o.Home] = i
	}
	unknown := func(x claim) bool {
		_, known := place[x.Home]
		return !known
	}
	return []check.Fault[claim, api.Errno]{
		{Tell: api.ErrUnknown, Holds: unknown},
		{Tell: api.ErrTwice, Holds: func(x claim) bool { return place[x.Home] != none && place[x.Home] < x.at }},
		{Tell: api.ErrRight, Holds: func(x claim) bool { return place[x.Home] == none }},
		{Tell: api.ErrOrder, Holds: func(x claim) bool { return place[x.Home] > x.at }},
		{Tell: api.ErrProof, Holds: func(x claim) bool { return !x.same(right[x.at]) }},
	}
}

// CheckOffers returns OK for right offers.
func CheckOffers(l []Zone, homes []Home, measures [][]Measure, offers []Offer) api.Errno {
	if e := check.First(checkAll(l, homes, measures), check.AtMost(offers, MaxHomes)); e != api.OK {
		return e
	}
	right := offered(l, homes, measures)
	all := faults(homes, right)
	for i, o := range offers {
		if e := check.Wrong(claim{o, i}, all); e != api.OK {
			return e
		}
	}
	return check.That(len(offers) == len(right), api.ErrOpen)
}
