package home_test

import (
	"fmt"
	"math/rand"
	"slices"
	"strconv"
	"testing"

	"flyover/api"
	"flyover/home"
)

// is compares a result with the expected one.
func is[T comparable](t *testing.T, what string, got, want T) {
	t.Helper()
	if got != want {
		t.Errorf("%s: got %v, want %v", what, got, want)
	}
}

// are compares a list with the expected one; nil and empty lists are equal.
func are[T comparable](t *testing.T, what string, got, want []T) {
	t.Helper()
	if !slices.Equal(got, want) {
		t.Errorf("%s: got %v, want %v", what, got, want)
	}
}

// isHome compares a home with the expected one.
func isHome(t *testing.T, what string, got, want home.Home) {
	t.Helper()
	is(t, what+" (its name)", got.Name, want.Name)
	is(t, what+" (its people)", got.People, want.People)
	are(t, what+" (its windows)", got.Windows, want.Windows)
}

// sameOffer reports whether two offers are the same; nil and empty lists of measures are equal.
func sameOffer(x, y home.Offer) bool {
	return x.Home == y.Home && x.Zone == y.Zone && x.Amount == y.Amount && slices.Equal(x.Measures, y.Measures)
}

// areOffers compares offers with the expected ones.
func areOffers(t *testing.T, what string, got, want []home.Offer) {
	t.Helper()
	if !slices.EqualFunc(got, want, sameOffer) {
		t.Errorf("%s: got %v, want %v", what, got, want)
	}
}

// seeded returns numbers that are the same in each run.
func seeded() *rand.Rand { return rand.New(rand.NewSource(1)) }

// from returns an integer from low to high.
func from(r *rand.Rand, low, high int) int { return low + r.Intn(high-low+1) }

// one returns one of some.
func one[T any](r *rand.Rand, l ...T) T { return l[r.Intn(len(l))] }

func to(low, high int) api.Interval { return api.Interval{Low: low, High: high} }

func span(from, to int) api.Span { return api.Span{From: from, To: to} }

func in(amount int) home.Entry { return home.Entry{In: true, Amount: amount} }

func out(house string, amount int) home.Entry { return home.Entry{Home: house, Amount: amount} }

func call(house string, tick int) home.Complaint { return home.Complaint{Home: house, Tick: tick} }

// even returns what passes if it is the same in all bands.
func even(low, high int) [api.MaxBands]api.Interval {
	var l [api.MaxBands]api.Interval
	for b := range l {
		l[b] = to(low, high)
	}
	return l
}

// house returns the home H of the document's examples.
func house() home.Home {
	loud := api.Spectrum{1000, 2000}
	return home.Home{Name: "h", People: 3, Windows: []home.Window{{Outside: loud, Area: 50, Pass: even(100, 200)}, {Outside: loud, Area: 100, Pass: even(10, 20)}}}
}

// changedHouse returns H with a change.
func changedHouse(f func(h *home.Home)) home.Home {
	h := house()
	f(&h)
	return h
}

// works returns the measures M of the document's examples.
func works() []home.Measure {
	return []home.Measure{
		{Name: "glass", Window: 0, Cost: 300, Pass: even(10, 20)}, {Name: "frame", Window: 0, Cost: 100, Pass: even(50, 60)},
		{Name: "vent", Window: 1, Cost: 200, Pass: even(0, 5)},
	}
}

// changedWorks returns M with a change.
func changedWorks(f func(l []home.Measure)) []home.Measure {
	l := works()
	f(l)
	return l
}

// zones returns those of the document's examples.
func zones() []home.Zone {
	return []home.Zone{{Name: "low", From: 20, Share: 50, Target: 1000}, {Name: "high", From: 24, Share: 80, Target: 100}}
}

// changedZones returns these zones with a change.
func changedZones(f func(l []home.Zone)) []home.Zone {
	l := zones()
	f(l)
	return l
}

// calm returns a home that is not eligible: its indoor energy is that of one window of H.
func calm() home.Home {
	return changedHouse(func(h *home.Home) { h.Name, h.Windows = "calm", h.Windows[1:] })
}

// street returns homes of which the first one is H, the second one is not eligible, the third one has no set that suffices, and the fourth one has no zone.
func street() []home.Home {
	far := changedHouse(func(h *home.Home) { h.Name = "far" })
	quiet := home.Home{Name: "quiet", Windows: []home.Window{{Outside: api.Spectrum{999}, Area: 100, Pass: even(1000, 1000)}}}
	return []home.Home{house(), calm(), far, quiet}
}

// lists returns the measures for the homes of the street.
func lists() [][]home.Measure {
	return [][]home.Measure{works(), nil, works()[1:2], nil}
}

// offers returns the offers for the homes of the street.
func offers() []home.Offer {
	return []home.Offer{{Home: "h", Zone: "high", Measures: []int{0}, Amount: 240}, {Home: "far", Zone: "high"}}
}

// arguments are those of all functions together.
type arguments struct {
	home       home.Home
	measures   []home.Measure
	set        []int
	target     int
	price      int
	measured   api.Interval
	zones      []home.Zone
	energy     int
	homes      []home.Home
	lists      [][]home.Measure
	offers     []home.Offer
	entries    []home.Entry
	complaints []home.Complaint
	complaint  home.Complaint
	window     int
	flights    []api.Span
	before     int
	after      int
	answered   []int
	tick       int
	deadline   int
}

// right returns arguments without an error: those of the examples.
func right() arguments {
	return arguments{
		home: house(), measures: works(), set: []int{0, 2}, target: 100, price: 1, measured: to(80, 120),
		zones: zones(), energy: 3000, homes: street(), lists: lists(), offers: offers(),
		entries:    []home.Entry{in(500), out("h", 240)},
		complaints: []home.Complaint{call("h", 10), call("h", 15), call("g", 16), call("h", 21)}, complaint: call("h", 20), window: 10,
		flights: []api.Span{span(10, 16), span(22, 30), span(23, 30)}, before: 5, after: 2,
		answered: []int{1, 2}, tick: 30, deadline: 5,
	}
}

// fault is a change of arguments, with the error that they have then.
type fault struct {
	change func(a *arguments)
	e      api.Errno
}

// homeFaults returns those of a home, in the document's order.
func homeFaults() []fault {
	return []fault{
		{func(a *arguments) { a.home.Name = "7" }, api.ErrName},
		{func(a *arguments) { a.home.People = 1001 }, api.ErrRange},
		{func(a *arguments) { a.home.Windows = nil }, api.ErrEmpty},
		{func(a *arguments) { a.home.Windows = make([]home.Window, 9) }, api.ErrMany},
		{func(a *arguments) { a.home.Windows[0].Pass[7] = to(2, 1) }, api.ErrOrder},
		{func(a *arguments) { a.home.Windows[1].Outside[7] = -1 }, api.ErrRange},
		{func(a *arguments) { a.home.Windows[1].Area = 101 }, api.ErrRange},
		{func(a *arguments) { a.home.Windows[1].Pass[0] = to(2, 1) }, api.ErrOrder},
		{func(a *arguments) { a.home.Windows[1].Pass[1] = to(-1, 1) }, api.ErrRange},
	}
}

// measureFaults returns those of measures, in the document's order.
func measureFaults() []fault {
	return []fault{
		{func(a *arguments) { a.measures = make([]home.Measure, 9) }, api.ErrMany},
		{func(a *arguments) { a.measures[0].Name = "" }, api.ErrName},
		{func(a *arguments) { a.measures[1].Name = "glass" }, api.ErrTwice},
		{func(a *arguments) { a.measures[1].Window = 2 }, api.ErrUnknown},
		{func(a *arguments) { a.measures[1].Cost = -1 }, api.ErrRange},
		{func(a *arguments) { a.measures[1].Pass[0] = to(2, 1) }, api.ErrOrder},
		{func(a *arguments) { a.measures[1].Pass[1] = to(0, 1001) }, api.ErrRange},
	}
}

// setFaults returns those of a set, in the document's order.
func setFaults() []fault {
	return []fault{
		{func(a *arguments) { a.set = []int{1, 0, 3} }, api.ErrUnknown},
		{func(a *arguments) { a.set = []int{1, 0} }, api.ErrOrder},
		{func(a *arguments) { a.set = []int{0, 1} }, api.ErrConflict},
	}
}

// targetFaults returns those of a target.
func targetFaults() []fault {
	return []fault{
		{func(a *arguments) { a.target = -1 }, api.ErrRange},
		{func(a *arguments) { a.target = api.MaxEnergy + 1 }, api.ErrRange},
	}
}

// zoneFaults returns those of zones, in the document's order.
func zoneFaults() []fault {
	return []fault{
		{func(a *arguments) { a.zones = nil }, api.ErrEmpty},
		{func(a *arguments) { a.zones = make([]home.Zone, 7) }, api.ErrMany},
		{func(a *arguments) { a.zones[0].Name = "" }, api.ErrName},
		{func(a *arguments) { a.zones[1].Name = "low" }, api.ErrTwice},
		{func(a *arguments) { a.zones[1].From = 121 }, api.ErrRange},
		{func(a *arguments) { a.zones[1].Share = 101 }, api.ErrRange},
		{func(a *arguments) { a.zones[1].Target = -1 }, api.ErrRange},
		{func(a *arguments) { a.zones[1].From = 20 }, api.ErrOrder},
	}
}

// streetFaults returns those of homes and lists of measures, in the document's order.
func streetFaults() []fault {
	return []fault{
		{func(a *arguments) { a.homes = make([]home.Home, 17) }, api.ErrMany},
		{func(a *arguments) { a.homes[0].People = -1 }, api.ErrRange},
		{func(a *arguments) { a.homes[1].Windows[0].Pass[0].High = 0 }, api.ErrOrder},
		{func(a *arguments) { a.homes[1].Name = "h" }, api.ErrTwice},
		{func(a *arguments) { a.homes[2].Windows = nil }, api.ErrEmpty},
		{func(a *arguments) { a.lists = a.lists[:3] }, api.ErrShape},
		{func(a *arguments) { a.lists[0][1].Cost = 1000001 }, api.ErrRange},
		{func(a *arguments) { a.lists[2][0].Name = "7" }, api.ErrName},
	}
}

// complaintFaults returns those of complaints, in the document's order.
func complaintFaults() []fault {
	return []fault{
		{func(a *arguments) { a.complaints = make([]home.Complaint, 65) }, api.ErrMany},
		{func(a *arguments) { a.complaints[0].Tick = -1 }, api.ErrRange},
		{func(a *arguments) { a.complaints[1].Home = "7" }, api.ErrName},
		{func(a *arguments) { a.complaints[1].Tick = api.MaxTick + 1 }, api.ErrRange},
		{func(a *arguments) { a.complaints[1].Tick = 9 }, api.ErrOrder},
		{func(a *arguments) { a.complaints[2].Home = "" }, api.ErrName},
		{func(a *arguments) { a.window = -1 }, api.ErrRange},
		{func(a *arguments) { a.window = 100001 }, api.ErrRange},
	}
}

// inOrder tests that of two errors the first one decides, and that nothing but zero values is beside it. The function f returns its error, and whether all of its other results are zero values.
func inOrder(t *testing.T, what string, f func(a arguments) (api.Errno, bool), faults ...[]fault) {
	t.Helper()
	e, _ := f(right())
	is(t, "error of "+what, e, api.OK)
	all := slices.Concat(faults...)
	for i, x := range all {
		for j, y := range all[i:] {
			a := right()
			y.change(&a)
			x.change(&a)
			e, zero := f(a)
			is(t, fmt.Sprint("error of ", what, " with the faults ", i, " and ", i+j), e, x.e)
			is(t, "zero values beside it", zero, true)
		}
	}
}

// isNothing reports whether a home is the zero value.
func isNothing(h home.Home) bool {
	return h.Name == "" && h.People == 0 && len(h.Windows) == 0
}

// somePass returns what passes; many bands pass all of it, or nothing.
func somePass(r *rand.Rand) [api.MaxBands]api.Interval {
	var l [api.MaxBands]api.Interval
	top := one(r, 0, 20, 300, 1000)
	for b := range l {
		high := r.Intn(top + 1)
		l[b] = to(r.Intn(high+1), one(r, high, top))
	}
	return l
}

// someHome returns a home with up to n windows.
func someHome(r *rand.Rand, name string, n int) home.Home {
	h := home.Home{Name: name, People: r.Intn(1001)}
	top := one(r, 10, 300, 5000, 100000000)
	for range from(r, 1, n) {
		w := home.Window{Area: from(r, 1, 100), Pass: somePass(r)}
		for b := range w.Outside {
			w.Outside[b] = one(r, 0, r.Intn(top+1))
		}
		h.Windows = append(h.Windows, w)
	}
	return h
}

// someMeasures returns up to n measures for a home; many have the same cost, let pass the same, or both.
func someMeasures(r *rand.Rand, h home.Home, n int) []home.Measure {
	var l []home.Measure
	dear := one(r, 1, 3, 100, 1000001)
	for i := range r.Intn(n + 1) {
		m := home.Measure{Name: "m" + strconv.Itoa(i), Window: r.Intn(len(h.Windows)), Cost: r.Intn(dear), Pass: somePass(r)}
		if i > 0 && r.Intn(3) == 0 {
			m.Window, m.Pass = l[i-1].Window, l[i-1].Pass
		}
		l = append(l, m)
	}
	return l
}

// someZones returns one to six zones.
func someZones(r *rand.Rand) []home.Zone {
	var l []home.Zone
	level := r.Intn(40)
	for i := range from(r, 1, 6) {
		l = append(l, home.Zone{Name: "z" + strconv.Itoa(i), From: level, Share: one(r, 0, 100, r.Intn(101)), Target: one(r, 0, r.Intn(100), r.Intn(10000), r.Intn(100000000))})
		level += from(r, 1, 10)
	}
	return l
}

// someStreet returns up to n homes with their measures.
func someStreet(r *rand.Rand, n int) ([]home.Home, [][]home.Measure) {
	var homes []home.Home
	var lists [][]home.Measure
	for i := range r.Intn(n + 1) {
		h := someHome(r, "h"+strconv.Itoa(i), 3)
		homes, lists = append(homes, h), append(lists, someMeasures(r, h, 5))
	}
	return homes, lists
}

// someComplaints returns up to n complaints of a few homes.
func someComplaints(r *rand.Rand, n int) []home.Complaint {
	var l []home.Complaint
	tick := one(r, 0, r.Intn(1000), api.MaxTick-2*n)
	for range r.Intn(n + 1) {
		tick += r.Intn(3)
		l = append(l, call(one(r, "a", "b", "c"), tick))
	}
	return l
}
