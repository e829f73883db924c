package home_test

import (
	"math"
	"slices"
	"strings"
	"testing"

	"flyover/api"
	"flyover/home"
)

var (
	anyInts    = []int{math.MinInt, -1, 0, 1, 8, 100, 1000, 100000001, api.MaxEnergy, math.MaxInt}
	anyStrings = []string{"", "\n", " ", "\x00", "\xff\n", "home", "home \n", "home a 1\n", "home  1\nwindow\n", sampleString + "window", strings.Repeat(" ", 4096), strings.Repeat("home h 1\n", 400), "home h " + strings.Repeat("9", 1<<20)}
)

// anyHomes returns homes with two integers.
func anyHomes(a, b int) []home.Home {
	pass := even(a, b)
	return []home.Home{
		{}, house(), {Name: "h", People: a, Windows: make([]home.Window, 9)},
		changedHouse(func(h *home.Home) { h.Windows[0].Outside, h.Windows[1].Outside = api.Spectrum{a, b}, api.Spectrum{b} }),
		changedHouse(func(h *home.Home) { h.Windows[0].Area, h.Windows[1].Area = a, b }),
		changedHouse(func(h *home.Home) { h.Windows[1].Pass = pass }),
		changedHouse(func(h *home.Home) { h.Windows = slices.Repeat(h.Windows, 500) }),
		{Name: "h", People: b, Windows: []home.Window{{Outside: api.Spectrum{a, a, a, a, b, b, b, b}, Area: b, Pass: pass}}},
	}
}

// anyMeasures returns lists of measures with two integers.
func anyMeasures(a, b int) [][]home.Measure {
	return [][]home.Measure{
		nil, works(), make([]home.Measure, 1000), {{Name: "m", Window: a, Cost: b, Pass: even(a, b)}, {Name: "n", Window: b, Cost: a}},
		changedWorks(func(l []home.Measure) { l[1].Window, l[2].Cost = a, b }), changedWorks(func(l []home.Measure) { l[1].Pass = even(a, b) }),
	}
}

// anyZones returns zones with two integers.
func anyZones(a, b int) [][]home.Zone {
	return [][]home.Zone{
		nil, zones(), make([]home.Zone, 1000), {{Name: "z", From: a, Share: b, Target: a}, {Name: "y", From: b, Share: a, Target: b}},
		changedZones(func(l []home.Zone) { l[0].From, l[1].From = a, b }), changedZones(func(l []home.Zone) { l[0].Target, l[1].Target = a, b }),
	}
}

// tryHome calls all functions of a home and measures with two integers.
func tryHome(h home.Home, a, b int) {
	home.CheckHome(h)
	home.Outdoor(h)
	home.Indoor(h)
	home.Levels(h)
	home.Print(h)
	for _, l := range anyMeasures(a, b) {
		home.CheckMeasures(h, l)
		home.Cheapest(h, l, a)
		home.Bound(h, l, a, b)
		home.Bound(h, l, api.MaxEnergy, a)
		for _, set := range [][]int{nil, {a}, {0, 2}, {a, b}, {b, a, 1}, slices.Repeat([]int{a}, 1000)} {
			home.After(h, l, set)
			home.Suffices(h, l, set, b)
			home.Verdict(h, l, set, to(a, b))
		}
	}
}

// tryStreet calls all functions of zones and homes with two integers.
func tryStreet(l []home.Zone, a, b int) {
	home.CheckZones(l)
	home.ZoneOf(l, a)
	for _, h := range anyHomes(a, b) {
		home.Eligible(l, h)
		for _, measures := range anyMeasures(a, b) {
			lists := [][]home.Measure{measures, works()}
			homes := []home.Home{h, calm()}
			home.Offers(l, homes, lists)
			home.Offers(l, homes[1:], lists)
			for _, offers := range [][]home.Offer{nil, {{Home: "h", Zone: "high", Measures: []int{a, b}, Amount: a}}, {{}, {Home: "calm", Amount: b}}, make([]home.Offer, 1000)} {
				home.CheckOffers(l, homes, lists, offers)
			}
		}
	}
	home.Offers(l, make([]home.Home, 1000), make([][]home.Measure, 1000))
}

// tryComplaints calls all functions of complaints and entries with two integers.
func tryComplaints(a, b int) {
	for _, l := range [][]home.Complaint{nil, right().complaints, {call("h", a), call("h", b)}, make([]home.Complaint, 1000)} {
		home.Counted(l, a)
		for _, answered := range [][]int{nil, {a}, {0, 1}, {b, a}, slices.Repeat([]int{a}, 1000)} {
			home.Due(l, a, answered, b, a)
			home.Due(l, 5, answered, a, b)
		}
	}
	for _, flights := range [][]api.Span{nil, right().flights, {span(a, b)}, {span(0, a), span(b, a)}, make([]api.Span, 1000)} {
		home.Tied(call("h", a), flights, a, b)
		home.Tied(call("h", 5), flights, b, a)
		home.Tied(call("", b), flights, 0, 0)
	}
	for _, l := range [][]home.Entry{nil, {in(a), out("h", b)}, {in(5), out("", a)}, {in(b), in(a), out("h", a)}, make([]home.Entry, 1000)} {
		home.Balance(l)
	}
}

// P1: each function terminates and does not panic, for all arguments.
func TestAnyArguments(t *testing.T) {
	for _, a := range anyInts {
		for _, b := range anyInts {
			for _, h := range anyHomes(a, b) {
				tryHome(h, a, b)
			}
			for _, l := range anyZones(a, b) {
				tryStreet(l, a, b)
			}
			tryComplaints(a, b)
		}
	}
	for _, s := range anyStrings {
		home.Parse(s)
		named := changedHouse(func(h *home.Home) { h.Name = s })
		tryHome(named, 0, 1)
		home.Offers(changedZones(func(l []home.Zone) { l[0].Name = s }), []home.Home{named}, lists()[:1])
		home.CheckOffers(zones(), street(), lists(), []home.Offer{{Home: s, Zone: s}})
		home.Balance([]home.Entry{{In: true, Home: s, Amount: 1}, out(s, 1)})
		home.Counted([]home.Complaint{call(s, 1)}, 1)
		home.Tied(call(s, 1), nil, 1, 1)
	}
	r := seeded()
	for range 3000 {
		s := []byte(sampleString)
		for range from(r, 1, 5) {
			s[r.Intn(len(s))] = "\n 019-hw\xff"[r.Intn(9)]
		}
		home.Parse(string(s))
		home.Parse(string(s[:r.Intn(len(s))]))
	}
}

// areRight tests that arguments are as they were.
func areRight(t *testing.T, a arguments) {
	t.Helper()
	want := right()
	isHome(t, "the home", a.home, want.home)
	are(t, "the measures", a.measures, want.measures)
	are(t, "the set", a.set, want.set)
	are(t, "the zones", a.zones, want.zones)
	for i := range want.homes {
		isHome(t, "a home of the street", a.homes[i], want.homes[i])
		are(t, "the measures of the street", a.lists[i], want.lists[i])
	}
	areOffers(t, "the offers", a.offers, want.offers)
	are(t, "the entries", a.entries, want.entries)
	are(t, "the complaints", a.complaints, want.complaints)
	are(t, "the flights", a.flights, want.flights)
	are(t, "what is answered", a.answered, want.answered)
}

// Arguments are not modified, and results share no memory with them or with each other.
func TestMemory(t *testing.T) {
	a := right()
	same, _ := home.After(a.home, a.measures, nil)
	same.Windows[0].Area = 7
	after, _ := home.After(a.home, a.measures, a.set)
	after.Windows[1].Outside[0] = 7
	home.Suffices(a.home, a.measures, a.set, a.target)
	home.Verdict(a.home, a.measures, a.set, a.measured)
	home.Bound(a.home, a.measures, a.target, a.price)
	set, _, _ := home.Cheapest(a.home, a.measures, a.target)
	set[0] = 7
	given, _ := home.Offers(a.zones, a.homes, a.lists)
	given[0].Measures[0] = 7
	given[1] = home.Offer{}
	home.CheckOffers(a.zones, a.homes, a.lists, a.offers)
	home.Balance(a.entries)
	counted, _ := home.Counted(a.complaints, a.window)
	counted[0] = 7
	tied, _ := home.Tied(a.complaint, a.flights, a.before, a.after)
	tied[0] = 7
	due, _ := home.Due(a.complaints, a.window, a.answered, a.tick, a.deadline)
	due[0] = 7
	home.Print(a.home)
	parsed, _, _ := home.Parse(sampleString)
	parsed.Windows[0].Area = 7
	areRight(t, a)
	again, _ := home.Offers(a.zones, a.homes, a.lists)
	areOffers(t, "Offers again", again, offers())
	homes, all := longStreet(2)
	two, _ := home.Offers(zones(), homes, all)
	two[0].Measures[0] = 7
	are(t, "the measures of the other offer", two[1].Measures, []int{0})
	back, _, _ := home.Parse(sampleString)
	isHome(t, "Parse again", back, small())
}
