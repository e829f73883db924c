package office_test

import (
	"fmt"
	"math"
	"slices"
	"strings"
	"testing"

	"flyover/api"
	"flyover/office"
)

// P10.1: events of each kind, with as many names and values as it has, or others.
func TestShapes(t *testing.T) {
	for kind, shape := range map[string][2]int{
		"type": {1, 2}, "house": {1, 2}, "flight": {2, 2}, "match": {1, 2}, "correct": {1, 2}, "publish": {1, 1}, "offer": {2, 2},
		"fund": {0, 2}, "pay": {1, 1}, "complain": {2, 2}, "answer": {2, 1}, "dismiss": {1, 1}, "undo": {0, 0},
	} {
		for names := range 4 {
			for values := range 4 {
				e := api.Event{Number: 1, Kind: kind, Names: slices.Repeat([]string{"a"}, names), Values: make([]int, values)}
				want := api.ErrShape
				if shape == [2]int{names, values} {
					want = api.OK
				}
				is(t, fmt.Sprint("CheckEvent of ", e), office.CheckEvent(e), want)
			}
		}
	}
	for _, kind := range []string{"", "Type", "types", "type ", "undo\n", "number", "money", "\xff", "remove"} {
		is(t, "CheckEvent of "+kind, office.CheckEvent(api.Event{Number: 1, Kind: kind}), api.ErrKind)
	}
}

// P10.1: events with each limit, and beyond it; the first error decides.
func TestCheckEvent(t *testing.T) {
	changed := func(f func(e *api.Event)) api.Event {
		e := event(4, "flight f jet 2 10")
		f(&e)
		return e
	}
	faults := []struct {
		change func(e *api.Event)
		e      api.Errno
	}{
		{func(e *api.Event) { e.Number = 0 }, api.ErrRange}, {func(e *api.Event) { e.Number = 1001 }, api.ErrRange}, {func(e *api.Event) { e.Number = math.MinInt }, api.ErrRange}, {func(e *api.Event) { e.Number = math.MaxInt }, api.ErrRange},
		{func(e *api.Event) { e.Kind = "delay" }, api.ErrKind},
		{func(e *api.Event) { e.Names = e.Names[:1] }, api.ErrShape}, {func(e *api.Event) { e.Values = append(e.Values, -1) }, api.ErrShape}, {func(e *api.Event) { e.Names, e.Values = []string{"", "", ""}, nil }, api.ErrShape},
		{func(e *api.Event) { e.Names[0] = "" }, api.ErrName}, {func(e *api.Event) { e.Names[1] = strings.Repeat("a", 25) }, api.ErrName}, {func(e *api.Event) { e.Names[1] = "7" }, api.ErrName}, {func(e *api.Event) { e.Names[0] = "a#" }, api.ErrName}, {func(e *api.Event) { e.Names[0] = "a b" }, api.ErrName},
		{func(e *api.Event) { e.Values[0] = -1 }, api.ErrRange}, {func(e *api.Event) { e.Values[1] = 1000000000 }, api.ErrRange}, {func(e *api.Event) { e.Values[1] = math.MinInt }, api.ErrRange}, {func(e *api.Event) { e.Values[0] = math.MaxInt }, api.ErrRange},
		{func(e *api.Event) { e.Text = " " }, api.ErrForm}, {func(e *api.Event) { e.Text = "x" }, api.ErrForm},
	}
	for i, x := range faults {
		is(t, fmt.Sprint("CheckEvent ", i), office.CheckEvent(changed(x.change)), x.e)
	}
	for _, pair := range [][2]int{{0, 4}, {0, 5}, {0, 8}, {0, 13}, {0, 17}, {4, 5}, {4, 8}, {4, 13}, {4, 17}, {5, 8}, {6, 14}, {5, 17}, {8, 13}, {9, 15}, {8, 17}, {13, 17}, {14, 18}} {
		both := changed(func(e *api.Event) {
			faults[pair[1]].change(e)
			faults[pair[0]].change(e)
		})
		is(t, fmt.Sprint("CheckEvent of the faults ", pair), office.CheckEvent(both), faults[pair[0]].e)
	}
	for _, x := range []api.Event{event(1, "undo"), event(1000, "undo"), event(1, "fund 0 0"), event(1, "fund 999999999 999999999"), event(1, "type "+strings.Repeat("Z", 24)+" 0 0"), event(1, "house a_9 0 999999999"), {Number: 5, Kind: "undo", Names: []string{}, Values: []int{}}} {
		is(t, fmt.Sprint("CheckEvent of ", x), office.CheckEvent(x), api.OK)
	}
}

// P10.1: the register of the document's examples, and those after further events.
func TestReplay(t *testing.T) {
	isRegister(t, "Replay", replayed(t, told()), registerOf())
	isRegister(t, "Replay of nothing", replayed(t, nil), office.Register{})
	isRegister(t, "Replay of empty lists", replayed(t, []api.Event{}), office.Register{})
	for i, x := range []struct {
		lines  []string
		change func(r *office.Register)
	}{
		{[]string{"undo"}, func(r *office.Register) { r.Fund = 0 }},
		{[]string{"fund 3 1", "fund 4 100000000", "undo", "undo"}, func(r *office.Register) {}},
		{[]string{"fund 9 1", "undo", "fund 3 2"}, func(r *office.Register) { r.Fund = 902 }},
		{[]string{"type prop 3 0"}, func(r *office.Register) {
			r.Types = append(r.Types, office.Type{Name: "prop", Energy: 0, Factor: 1000})
		}},
		{[]string{"type m 999999999 999999999", "flight jet m 999999999 0"}, func(r *office.Register) {
			r.Day = 999999999
			r.Types = append(r.Types, office.Type{Name: "m", Energy: 999999999, Factor: 1000})
			r.Flights = append(r.Flights, office.Flight{Name: "jet", Type: "m", Day: 999999999, Heard: -1})
		}},
		{[]string{"match g 5 0"}, func(r *office.Register) { r.Day, r.Flights[1].Heard = 5, 0 }},
		{[]string{"match h 5 7", "undo"}, func(r *office.Register) {}},
		{slices.Concat(matches(), []string{"correct jet 6 500", "publish n 7", "house jet 8 0"}), func(r *office.Register) {
			r.Day, r.Types[0].Factor = 8, 500
			r.Flights[0].Heard, r.Flights[1].Heard, r.Flights[2].Heard = 40000000, 50000000, 60000000
			r.Maps = append(r.Maps, office.Map{Name: "n", Day: 7, Levels: []int{68, 41}})
			r.Houses = append(r.Houses, office.House{Name: "jet"})
		}},
		{slices.Concat(matches(), []string{"correct jet 6 500", "correct jet 6 2000", "undo"}), func(r *office.Register) {
			r.Day, r.Types[0].Factor = 6, 500
			r.Flights[0].Heard, r.Flights[1].Heard, r.Flights[2].Heard = 40000000, 50000000, 60000000
		}},
		{[]string{"offer o a 4 500"}, func(r *office.Register) {
			r.Day, r.Offers = 4, []office.Offer{{Name: "o", House: "a", Amount: 500}}
		}},
		{[]string{"offer o a 4 500", "pay o 5"}, func(r *office.Register) {
			r.Day, r.Offers, r.Fund = 5, []office.Offer{{Name: "o", House: "a", Amount: 500, Paid: true}}, 400
		}},
		{[]string{"offer o a 4 500", "undo", "offer o a 3 900", "pay o 3"}, func(r *office.Register) {
			r.Offers, r.Fund = []office.Offer{{Name: "o", House: "a", Amount: 900, Paid: true}}, 0
		}},
		{[]string{"complain x b 4 1439", "complain y b 4 0"}, func(r *office.Register) {
			r.Day, r.Complaints = 4, []office.Complaint{{Name: "x", House: "b", Day: 4, Minute: 1439, Answered: -1}, {Name: "y", House: "b", Day: 4, Answered: -1}}
		}},
		{[]string{"complain x b 4 15", "dismiss x 6"}, func(r *office.Register) {
			r.Day, r.Complaints = 6, []office.Complaint{{Name: "x", House: "b", Day: 4, Minute: 15, Answered: 6}}
		}},
		{[]string{"complain x b 4 15", "flight k jet 4 16", "answer x k 7"}, func(r *office.Register) {
			r.Day, r.Complaints = 7, []office.Complaint{{Name: "x", House: "b", Day: 4, Minute: 15, Flight: "k", Answered: 7}}
			r.Flights = append(r.Flights, office.Flight{Name: "k", Type: "jet", Day: 4, Minute: 16, Heard: -1})
		}},
		{[]string{"complain x b 4 15", "dismiss x 6", "undo", "undo", "complain x a 3 1"}, func(r *office.Register) {
			r.Complaints = []office.Complaint{{Name: "x", House: "a", Day: 3, Minute: 1, Answered: -1}}
		}},
	} {
		want := registerOf()
		x.change(&want)
		isRegister(t, fmt.Sprint("Replay ", i, x.lines), replayed(t, told(x.lines...)), want)
	}
	// An event that is undone frees its name, and its day.
	isRegister(t, "Replay of undone events", replayed(t, events("type jet 5 1", "undo", "type jet 1 2", "house jet 1 3", "undo", "undo")), office.Register{})
}

// P10.1: the number of the first event with an error.
func TestReplayErrors(t *testing.T) {
	for i, x := range allBroken() {
		r, n, e := office.Replay(x.l)
		is(t, fmt.Sprint("number of Replay ", i), n, x.n)
		is(t, fmt.Sprint("error of Replay ", i), e, x.e)
		isRegister(t, fmt.Sprint("register of Replay ", i), r, office.Register{})
	}
	full := events(each(1000, "fund # 1")...)
	is(t, "the fund of 1000 events", replayed(t, full).Fund, 1000)
}

// P10.1: events that are accepted after J and further events, and those that are not.
func TestAccepts(t *testing.T) {
	sold, claimed := "offer o a 4 500", "complain x b 3 15"
	for i, x := range []struct {
		before []string
		line   string
		e      api.Errno
	}{
		{nil, "type prop 3 999999999", api.OK}, {nil, "type prop 2 5", api.ErrState}, {nil, "type jet 3 5", api.ErrTwice}, {nil, "type jet 2 5", api.ErrState}, {nil, "type Jet 3 5", api.OK}, {nil, "type a 3 5", api.OK},
		{nil, "house c 3 1000", api.OK}, {nil, "house c 3 1001", api.ErrRange}, {nil, "house c 3 0", api.OK}, {nil, "house a 3 1001", api.ErrTwice}, {nil, "house c 2 1001", api.ErrState}, {nil, "house jet 3 5", api.OK},
		{nil, "flight k jet 3 1439", api.OK}, {nil, "flight k jet 3 0", api.OK}, {nil, "flight k jet 3 1440", api.ErrRange}, {nil, "flight k prop 3 5", api.ErrUnknown}, {nil, "flight f prop 3 1440", api.ErrUnknown}, {nil, "flight f jet 3 1440", api.ErrTwice}, {nil, "flight f prop 2 5", api.ErrState}, {nil, "flight jet jet 3 5", api.OK}, {nil, "flight k a 3 5", api.ErrUnknown},
		{nil, "match f 3 0", api.OK}, {nil, "match f 3 999999999", api.OK}, {nil, "match k 3 0", api.ErrUnknown}, {nil, "match k 2 0", api.ErrState}, {nil, "match jet 3 0", api.ErrUnknown}, {[]string{"match f 3 0"}, "match f 3 0", api.ErrTwice}, {[]string{"match f 3 0"}, "match g 3 0", api.OK}, {[]string{"match f 3 0", "undo"}, "match f 3 0", api.OK},
		{nil, "correct jet 3 500", api.ErrShort}, {nil, "correct jet 3 0", api.ErrRange}, {nil, "correct jet 3 2001", api.ErrRange}, {nil, "correct f 3 2001", api.ErrUnknown}, {nil, "correct f 2 500", api.ErrState}, {matches(), "correct jet 4 2000", api.OK}, {matches(), "correct jet 4 1", api.OK}, {matches(), "correct jet 4 2001", api.ErrRange}, {matches(), "correct jet 4 0", api.ErrRange}, {matches()[1:], "correct jet 4 500", api.ErrShort},
		{[]string{"type prop 3 5", "flight p prop 3 1", "match p 3 0", "match f 3 0", "match g 3 0"}, "correct jet 3 500", api.ErrShort}, {[]string{"type prop 3 5", "flight p prop 3 1", "match p 3 0", "match f 3 0", "match g 3 0"}, "correct prop 3 500", api.ErrShort}, {[]string{"match f 3 0", "match g 3 0", "match h 3 0", "undo"}, "correct jet 3 500", api.ErrShort}, {[]string{"match f 3 0", "match g 3 0", "match h 3 0"}, "correct jet 3 500", api.OK},
		{nil, "publish n 3", api.OK}, {nil, "publish n 2", api.ErrState}, {nil, "publish m 3", api.ErrTwice}, {nil, "publish m 2", api.ErrState}, {nil, "publish a 3", api.OK},
		{nil, "offer o a 3 1", api.OK}, {nil, "offer o a 3 100000000", api.OK}, {nil, "offer o a 3 0", api.ErrRange}, {nil, "offer o a 3 100000001", api.ErrRange}, {nil, "offer o b 3 0", api.ErrRange}, {nil, "offer o b 3 5", api.ErrRule}, {nil, "offer o c 3 0", api.ErrUnknown}, {nil, "offer o a 2 5", api.ErrState}, {nil, "offer o m 3 5", api.ErrUnknown},
		{[]string{sold}, "offer u a 4 500", api.ErrHeld}, {[]string{sold}, "offer o a 4 0", api.ErrTwice}, {[]string{sold}, "offer o c 4 0", api.ErrUnknown}, {[]string{sold}, "offer u b 4 5", api.ErrRule}, {[]string{sold, "undo"}, "offer o a 3 5", api.OK}, {[]string{sold, "pay o 4"}, "offer u a 4 500", api.ErrHeld}, {[]string{"house c 3 1000"}, "offer o c 3 5", api.ErrRule}, {[]string{"house c 3 1000", "publish n 3"}, "offer o c 3 5", api.OK},
		{nil, "fund 3 1", api.OK}, {nil, "fund 3 100000000", api.OK}, {nil, "fund 3 0", api.ErrRange}, {nil, "fund 3 100000001", api.ErrRange}, {nil, "fund 2 0", api.ErrState},
		{nil, "pay o 3", api.ErrUnknown}, {nil, "pay a 3", api.ErrUnknown}, {[]string{sold}, "pay o 3", api.ErrState}, {[]string{sold}, "pay o 4", api.OK}, {[]string{sold, "pay o 4"}, "pay o 4", api.ErrOver}, {[]string{"offer o a 3 900"}, "pay o 3", api.OK}, {[]string{"offer o a 3 901"}, "pay o 3", api.ErrShort}, {[]string{"offer o a 3 901", "fund 3 1"}, "pay o 3", api.OK}, {[]string{"offer o a 3 500", "undo"}, "pay o 3", api.ErrUnknown},
		{nil, "complain x b 3 1439", api.OK}, {nil, "complain x b 3 1440", api.ErrRange}, {nil, "complain x b 2 15", api.ErrState}, {nil, "complain x c 3 1440", api.ErrUnknown}, {[]string{claimed}, "complain x b 3 1440", api.ErrTwice}, {[]string{claimed}, "complain x c 3 15", api.ErrUnknown}, {[]string{claimed}, "complain y b 3 15", api.OK}, {nil, "complain f a 3 0", api.OK},
		{nil, "answer x f 3", api.ErrUnknown}, {[]string{claimed}, "answer x k 3", api.ErrUnknown}, {[]string{claimed}, "answer x f 2", api.ErrState}, {[]string{claimed}, "answer x f 3", api.ErrConflict}, {[]string{claimed, "flight k jet 3 16"}, "answer x k 3", api.OK}, {[]string{claimed, "flight k jet 3 16"}, "answer x k 999", api.OK}, {[]string{claimed, "flight k jet 3 16", "answer x k 40"}, "answer x k 40", api.ErrOver}, {[]string{claimed, "dismiss x 4"}, "answer x f 4", api.ErrOver}, {[]string{claimed, "flight k jet 4 16"}, "answer x k 4", api.ErrConflict},
		{nil, "dismiss x 3", api.ErrUnknown}, {[]string{claimed}, "dismiss x 2", api.ErrState}, {[]string{claimed}, "dismiss x 3", api.OK}, {[]string{claimed, "flight k jet 3 16"}, "dismiss x 3", api.ErrRule}, {[]string{claimed, "flight k jet 3 16", "flight l jet 5 0"}, "dismiss x 5", api.ErrRule}, {[]string{claimed, "flight k jet 4 16"}, "dismiss x 4", api.OK}, {[]string{claimed, "flight k jet 3 16", "undo"}, "dismiss x 3", api.OK}, {[]string{claimed, "dismiss x 4"}, "dismiss x 4", api.ErrOver}, {[]string{claimed, "flight k jet 3 16", "answer x k 40"}, "dismiss x 40", api.ErrOver}, {[]string{claimed, "dismiss x 4", "undo"}, "dismiss x 3", api.OK},
		{nil, "undo", api.OK}, {[]string{"undo"}, "undo", api.ErrRule}, {[]string{sold, "pay o 4"}, "undo", api.ErrRule}, {[]string{sold, "pay o 4", "fund 4 1", "undo"}, "undo", api.ErrRule}, {[]string{sold}, "undo", api.OK}, {[]string{sold, "undo"}, "undo", api.OK}, {[]string{sold, "undo", "undo"}, "undo", api.ErrRule},
	} {
		l := told(x.before...)
		is(t, fmt.Sprint("Accepts ", i, x.before, x.line), office.Accepts(l, event(len(l)+1, x.line)), x.e)
		_, n, e := office.Replay(append(l, event(len(l)+1, x.line)))
		is(t, fmt.Sprint("error of Replay ", i, x.before, x.line), e, x.e)
		is(t, fmt.Sprint("number of Replay ", i, x.before, x.line), n != 0, e != api.OK)
	}
	// The level 60 begins at the energy 10000000.
	for share, want := range map[int]api.Errno{999: api.ErrRule, 1000: api.OK} {
		l := events("type jet 0 10000000", fmt.Sprint("house a 0 ", share), "flight f jet 0 0", "publish m 0")
		is(t, fmt.Sprint("Accepts of an offer for the share ", share), office.Accepts(l, event(5, "offer o a 0 1")), want)
	}
}

// P10.1: events with wrong numbers, after none, and after as many as there may be.
func TestAcceptsNumbers(t *testing.T) {
	for number, want := range map[int]api.Errno{8: api.ErrOrder, 9: api.OK, 10: api.ErrOrder, 1: api.ErrOrder, 1000: api.ErrOrder, 0: api.ErrRange, 1001: api.ErrRange, math.MinInt: api.ErrRange} {
		for _, line := range []string{"undo", "fund 3 5"} {
			is(t, fmt.Sprint("Accepts of ", line, " with the number ", number), office.Accepts(told(), event(number, line)), want)
		}
		// The order comes before all other errors of acceptance.
		if want == api.ErrOrder {
			is(t, fmt.Sprint("Accepts of an old event with the number ", number), office.Accepts(told(), event(number, "type jet 0 5")), want)
		}
	}
	for line, want := range map[string]api.Errno{
		"undo": api.ErrEmpty, "type jet 0 5": api.OK, "house a 0 5": api.OK, "flight f jet 0 5": api.ErrUnknown, "match f 0 5": api.ErrUnknown, "correct jet 0 5": api.ErrUnknown, "publish m 0": api.ErrEmpty, "offer o a 0 5": api.ErrUnknown,
		"fund 0 5": api.OK, "pay o 0": api.ErrUnknown, "complain x a 0 5": api.ErrUnknown, "answer x f 0": api.ErrUnknown, "dismiss x 0": api.ErrUnknown, "delay 5": api.ErrKind, "undo 5": api.ErrShape,
	} {
		is(t, "Accepts of nothing and "+line, office.Accepts(nil, event(1, line)), want)
	}
	is(t, "Accepts of an offer without a map", office.Accepts(events("house a 0 5"), event(2, "offer o a 0 5")), api.ErrNone)
	full := events(each(1000, "fund # 1")...)
	is(t, "Accepts of the last event", office.Accepts(full[:999], event(1000, "undo")), api.OK)
	is(t, "Accepts of one event too many", office.Accepts(full, event(1000, "undo")), api.ErrMany)
	is(t, "Accepts of a wrong event too many", office.Accepts(full, event(1001, "undo")), api.ErrRange)
	for i, x := range allBroken() {
		is(t, fmt.Sprint("Accepts after an error ", i), office.Accepts(x.l, api.Event{}), x.e)
	}
}

// P10.1: as many of each as there may be, and one more.
func TestLimits(t *testing.T) {
	base := []string{"type jet 0 999999999", "house a 0 1000"}
	offers := slices.Concat(base, each(31, "house a# 0 1000"), []string{"flight f jet 0 0", "publish m 0", "offer o a 0 1"}, each(31, "offer o# a# 0 1"))
	for _, x := range []struct {
		lines  []string
		line   string
		beyond string
		e      api.Errno
	}{
		{slices.Concat(base, each(6, "type t# 0 5")), "type last 0 5", "type more 0 5", api.ErrMany},
		{slices.Concat(base, each(30, "house h# 0 5")), "house last 0 5", "house more 0 5", api.ErrMany},
		{slices.Concat(base, each(63, "flight f# jet 0 5")), "flight last jet 0 5", "flight more jet 0 5", api.ErrMany},
		{slices.Concat(base, each(15, "publish m# 0")), "publish last 0", "publish more 0", api.ErrMany},
		{slices.Concat(base, each(63, "complain c# a 0 5")), "complain last a 0 5", "complain more a 0 5", api.ErrMany},
		{offers[:len(offers)-1], offers[len(offers)-1], "offer more a 0 5", api.ErrHeld},
	} {
		l := events(x.lines...)
		is(t, "Accepts of "+x.line, office.Accepts(l, event(len(l)+1, x.line)), api.OK)
		l = append(l, event(len(l)+1, x.line))
		is(t, "Accepts of "+x.beyond, office.Accepts(l, event(len(l)+1, x.beyond)), x.e)
	}
	// Other errors come before that of one too many.
	flights := events(slices.Concat(base, each(64, "flight f# jet 0 5"))...)
	is(t, "Accepts of a minute that is none", office.Accepts(flights, event(67, "flight more jet 0 1440")), api.ErrRange)
	is(t, "Accepts of a name that is there", office.Accepts(flights, event(67, "flight f63 jet 0 5")), api.ErrTwice)
	houses := events(each(32, "house h# 0 5")...)
	is(t, "Accepts of a share that is none", office.Accepts(houses, event(33, "house more 0 1001")), api.ErrRange)
	is(t, "Accepts after an undo", office.Accepts(append(houses, event(33, "undo")), event(34, "house more 0 1000")), api.OK)
	complaints := events(slices.Concat(base, each(64, "complain c# a 0 5"))...)
	is(t, "Accepts of a minute of a complaint that is none", office.Accepts(complaints, event(67, "complain more a 0 1440")), api.ErrRange)
}

// P10.1: the register as of a day.
func TestAsOf(t *testing.T) {
	l := told("offer o a 4 500", "fund 4 1", "undo", "complain x b 5 15", "undo", "fund 4 7", "dismiss y 9")[:14]
	early := registerOf()
	early.Day, early.Fund, early.Maps = 2, 0, nil
	last := registerOf()
	last.Day, last.Fund, last.Offers = 4, 907, []office.Offer{{Name: "o", House: "a", Amount: 500}}
	first := registerOf()
	first = office.Register{Day: 1, Types: first.Types, Houses: first.Houses}
	for day, want := range map[int]office.Register{0: {}, 1: first, 2: early, 3: registerOf(), 4: last, 5: last, 999999999: last} {
		r, e := office.AsOf(l, day)
		isRegister(t, fmt.Sprint("AsOf ", day), r, want)
		is(t, fmt.Sprint("error of AsOf ", day), e, api.OK)
	}
	for _, day := range []int{-1, 1000000000, math.MinInt, math.MaxInt} {
		r, e := office.AsOf(l, day)
		isRegister(t, fmt.Sprint("AsOf ", day), r, office.Register{})
		is(t, fmt.Sprint("error of AsOf ", day), e, api.ErrRange)
	}
	r, e := office.AsOf(nil, 5)
	isRegister(t, "AsOf of nothing", r, office.Register{})
	is(t, "error of AsOf of nothing", e, api.OK)
}

// P10.1: houses that are eligible.
func TestEligible(t *testing.T) {
	for i, x := range []struct {
		lines []string
		want  []string
	}{
		{sample(), []string{"a"}}, {sample()[:6], nil}, {nil, nil}, {sample()[:7], []string{"a"}}, {with("offer o a 4 500"), nil}, {with("offer o a 4 500", "pay o 4"), nil}, {with("offer o a 4 500", "undo"), []string{"a"}},
		// A house that was added after the last map is not in it.
		{with("house c 4 1000"), []string{"a"}}, {with("house c 4 1000", "publish n 4"), []string{"a", "c"}}, {with("house c 4 1000", "publish n 4", "offer o a 4 1"), []string{"c"}},
		// The last map decides, and not what the level is now.
		{with(slices.Concat(matches(), []string{"correct jet 4 1"})...), []string{"a"}}, {with(slices.Concat(matches(), []string{"correct jet 4 1", "publish n 4"})...), nil},
		{[]string{"type jet 0 10000000", "house b 0 1000", "house a 0 999", "flight f jet 0 0", "publish m 0"}, []string{"b"}},
	} {
		l, e := office.Eligible(events(x.lines...))
		are(t, fmt.Sprint("Eligible ", i), l, x.want)
		is(t, fmt.Sprint("error of Eligible ", i), e, api.OK)
	}
}

// P10.1: complaints that are late.
func TestLate(t *testing.T) {
	open := []string{"complain x b 3 15"}
	flown := []string{"complain x b 3 15", "flight k jet 3 16"}
	for i, x := range []struct {
		lines []string
		day   int
		want  []string
	}{
		{nil, 999999999, nil}, {open, 33, nil}, {open, 34, []string{"x"}}, {open, 0, nil}, {open, 999999999, []string{"x"}},
		{append(flown, "answer x k 33"), 34, nil}, {append(flown, "answer x k 33"), 999999999, nil}, {append(flown, "answer x k 34"), 33, nil}, {append(flown, "answer x k 34"), 34, []string{"x"}}, {append(flown, "answer x k 40"), 35, []string{"x"}}, {append(flown, "answer x k 40"), 100, []string{"x"}},
		{append(open, "dismiss x 33"), 100, nil}, {append(open, "dismiss x 34"), 100, []string{"x"}}, {append(open, "dismiss x 33", "undo"), 100, []string{"x"}}, {append(open, "undo"), 100, nil},
		{append(open, "complain b a 4 0", "complain a b 3 0")[:2], 34, []string{"x"}}, {append(open, "complain b a 4 0", "complain a b 5 0"), 100, []string{"x", "b", "a"}}, {append(open, "complain b a 4 0", "complain a b 5 0", "dismiss b 6"), 100, []string{"x", "a"}}, {append(open, "complain b a 4 0", "complain a b 5 0", "dismiss b 6"), 35, []string{"x"}},
	} {
		l, e := office.Late(told(x.lines...), x.day)
		are(t, fmt.Sprint("Late ", i), l, x.want)
		is(t, fmt.Sprint("error of Late ", i), e, api.OK)
	}
	for _, day := range []int{-1, 1000000000, math.MinInt, math.MaxInt} {
		l, e := office.Late(told(open...), day)
		are(t, "Late of no day", l, nil)
		is(t, "error of Late of no day", e, api.ErrRange)
	}
}

// P10.1: how many flights of a type are matched.
func TestMatched(t *testing.T) {
	both := matched("type prop 4 5", "flight p prop 4 1", "flight q jet 4 1", "match p 4 999999999")
	for i, x := range []struct {
		l    []api.Event
		name string
		n    int
		sum  int
		e    api.Errno
	}{
		{told(), "jet", 0, 0, api.OK}, {matched(), "jet", 3, 150000000, api.OK}, {matched("undo"), "jet", 2, 90000000, api.OK}, {both, "jet", 3, 150000000, api.OK}, {both, "prop", 1, 999999999, api.OK}, {told("match g 3 0"), "jet", 1, 0, api.OK},
		// What was heard is not corrected.
		{matched("correct jet 4 500"), "jet", 3, 150000000, api.OK},
		{told(), "prop", 0, 0, api.ErrUnknown}, {both, "a", 0, 0, api.ErrUnknown}, {both, "f", 0, 0, api.ErrUnknown}, {both, "", 0, 0, api.ErrUnknown}, {nil, "jet", 0, 0, api.ErrUnknown}, {told("type prop 3 5", "undo"), "prop", 0, 0, api.ErrUnknown},
	} {
		n, sum, e := office.Matched(x.l, x.name)
		is(t, fmt.Sprint("Matched ", i), n, x.n)
		is(t, fmt.Sprint("sum of Matched ", i), sum, x.sum)
		is(t, fmt.Sprint("error of Matched ", i), e, x.e)
	}
}

// P10.1: the story of a house.
func TestStory(t *testing.T) {
	own := []string{"type jet 1 100000000", "house a 1 500", "flight f jet 2 10", "flight g jet 2 20", "flight h jet 2 30", "publish m 3", "fund 3 900"}
	other := []string{"type jet 1 100000000", "house b 1 1", "flight f jet 2 10", "flight g jet 2 20", "flight h jet 2 30", "publish m 3", "fund 3 900"}
	third := []string{"type jet 1 100000000", "flight f jet 2 10", "flight g jet 2 20", "flight h jet 2 30", "fund 3 900"}
	for i, x := range []struct {
		lines []string
		house string
		want  []string
	}{
		{nil, "a", own}, {nil, "b", other}, {[]string{"offer o a 4 500", "pay o 5"}, "a", append(own, "offer o a 4 500", "pay o 5")}, {[]string{"offer o a 4 500", "pay o 5"}, "b", other},
		{matches(), "b", slices.Concat(other, matches())}, {append(matches(), "correct jet 5 7"), "b", append(slices.Concat(other, matches()), "correct jet 5 7")}, {[]string{"undo"}, "a", own[:6]}, {[]string{"fund 4 1", "undo", "house c 4 5", "undo"}, "a", own},
		// All maps after the house are in its story, and none before it.
		{[]string{"house c 4 900"}, "c", append(third, "house c 4 900")}, {[]string{"house c 4 900", "publish n 4", "publish o 5"}, "c", append(third, "house c 4 900", "publish n 4", "publish o 5")}, {[]string{"house c 4 900", "publish n 4"}, "a", append(own, "publish n 4")},
		{[]string{"complain x b 4 15", "complain y a 4 0", "dismiss x 5", "dismiss y 6"}, "a", append(own, "complain y a 4 0", "dismiss y 6")}, {[]string{"complain x b 4 15", "complain y a 4 0", "dismiss x 5", "dismiss y 6"}, "b", append(other, "complain x b 4 15", "dismiss x 5")},
		{[]string{"complain x b 4 15", "flight k jet 4 1", "answer x k 9"}, "a", append(own, "flight k jet 4 1")}, {[]string{"complain x b 4 15", "flight k jet 4 1", "answer x k 9"}, "b", append(other, "complain x b 4 15", "flight k jet 4 1", "answer x k 9")},
		// An offer and a complaint may have one name, and one that is that of a house.
		{[]string{"offer x a 4 500", "complain x b 4 15", "dismiss x 5", "pay x 5"}, "a", append(own, "offer x a 4 500", "pay x 5")}, {[]string{"offer x a 4 500", "complain x b 4 15", "dismiss x 5", "pay x 5"}, "b", append(other, "complain x b 4 15", "dismiss x 5")}, {[]string{"offer b a 4 500", "complain a b 4 15", "publish a 5", "pay b 5"}, "a", append(own, "offer b a 4 500", "publish a 5", "pay b 5")}, {[]string{"house f 4 0", "complain jet f 4 1"}, "f", append(third, "house f 4 0", "complain jet f 4 1")},
		// A name that was undone may be another house's.
		{[]string{"complain x b 4 15", "undo", "complain x a 4 16"}, "b", other}, {[]string{"complain x b 4 15", "undo", "complain x a 4 16"}, "a", append(own, "complain x a 4 16")},
	} {
		l, e := office.Story(told(x.lines...), x.house)
		areEvents(t, fmt.Sprint("Story ", i), l, events(x.want...))
		is(t, fmt.Sprint("error of Story ", i), e, api.OK)
	}
	for i, x := range []struct {
		l     []api.Event
		house string
	}{{told(), "c"}, {told(), ""}, {told(), "jet"}, {told(), "f"}, {nil, "a"}, {told("house c 4 5", "undo"), "c"}} {
		l, e := office.Story(x.l, x.house)
		areEvents(t, fmt.Sprint("Story of no house ", i), l, nil)
		is(t, fmt.Sprint("error of Story of no house ", i), e, api.ErrUnknown)
	}
}

// P10.1, P10.2: the errors of events come before all others, and nothing but zero values is beside them.
func TestErrorsOfEvents(t *testing.T) {
	for i, x := range allBroken() {
		for what, f := range map[string]func() (api.Errno, bool){
			"AsOf": func() (api.Errno, bool) {
				r, e := office.AsOf(x.l, -1)
				return e, sameRegister(r, office.Register{})
			},
			"Number": func() (api.Errno, bool) {
				n, level, e := office.Number(x.l, "c")
				return e, n == 0 && level == 0
			},
			"Chain": func() (api.Errno, bool) {
				l, e := office.Chain(x.l, "a")
				return e, len(l) == 0
			},
			"CheckChain": func() (api.Errno, bool) {
				n, e := office.CheckChain(x.l, "a", []office.Item{item("f", 1)}, 5)
				return e, n == 0
			},
			"ByTypes": func() (api.Errno, bool) {
				l, e := office.ByTypes(x.l, "a")
				return e, len(l) == 0
			},
			"Published": func() (api.Errno, bool) {
				n, e := office.Published(x.l, "m", "a")
				return e, n == 0
			},
			"Mark": func() (api.Errno, bool) {
				key, e := office.Mark(x.l, "m", api.Key{1})
				return e, key == api.Key{}
			},
			"CheckMark": func() (api.Errno, bool) { return office.CheckMark(x.l, "m", api.Key{1}, api.Key{}), true },
			"Eligible": func() (api.Errno, bool) {
				l, e := office.Eligible(x.l)
				return e, len(l) == 0
			},
			"Late": func() (api.Errno, bool) {
				l, e := office.Late(x.l, -1)
				return e, len(l) == 0
			},
			"Matched": func() (api.Errno, bool) {
				n, sum, e := office.Matched(x.l, "jet")
				return e, n == 0 && sum == 0
			},
			"Story": func() (api.Errno, bool) {
				l, e := office.Story(x.l, "a")
				return e, len(l) == 0
			},
		} {
			e, zero := f()
			is(t, fmt.Sprint("error of ", what, " ", i), e, x.e)
			is(t, fmt.Sprint("zero values beside that of ", what, " ", i), zero, true)
		}
	}
}

// P10.1: events that are accepted, and their registers, by the definition.
func TestRegistersByDefinition(t *testing.T) {
	r := seeded()
	kinds := map[api.Errno]int{}
	for range 250 {
		var l []api.Event
		for range 80 {
			e := someEvent(r, l)
			want := refused(l, e)
			if want == api.OK && full(l, e.Kind) {
				want = api.ErrMany
			}
			got := office.Accepts(l, e)
			is(t, fmt.Sprint("Accepts of ", e, " after ", l), got, want)
			kinds[got]++
			if want == api.OK {
				l = append(l, e)
			}
		}
		counts := counting(l)
		want := folded(counts)
		isRegister(t, fmt.Sprint("Replay of ", l), replayed(t, l), want)
		day := max(0, want.Day+one(r, 0, -1, -5, -20, 5))
		past := slices.DeleteFunc(slices.Clone(counts), func(e api.Event) bool { return e.Values[0] > day })
		asOf, e := office.AsOf(l, day)
		isRegister(t, fmt.Sprint("AsOf ", day, " of ", l), asOf, folded(past))
		is(t, "error of AsOf", e, api.OK)
		var eligible, late []string
		for i, h := range want.Houses {
			held := slices.ContainsFunc(want.Offers, func(o office.Offer) bool { return o.House == h.Name })
			if n := len(want.Maps); n > 0 && !held && i < len(want.Maps[n-1].Levels) && want.Maps[n-1].Levels[i] >= 60 {
				eligible = append(eligible, h.Name)
			}
		}
		names, e := office.Eligible(l)
		are(t, fmt.Sprint("Eligible of ", l), names, eligible)
		is(t, "error of Eligible", e, api.OK)
		day = max(0, want.Day+one(r, 0, -5, 10, 20, 30, 40))
		for _, c := range want.Complaints {
			if day > c.Day+30 && (c.Answered < 0 || c.Answered > c.Day+30) {
				late = append(late, c.Name)
			}
		}
		names, e = office.Late(l, day)
		are(t, fmt.Sprint("Late ", day, " of ", l), names, late)
		is(t, "error of Late", e, api.OK)
		for _, x := range want.Types {
			n, sum := 0, 0
			for _, f := range want.Flights {
				if f.Type == x.Name && f.Heard >= 0 {
					n, sum = n+1, sum+f.Heard
				}
			}
			gotN, gotSum, e := office.Matched(l, x.Name)
			are(t, fmt.Sprint("Matched of ", x.Name, l), []int{gotN, gotSum}, []int{n, sum})
			is(t, "error of Matched", e, api.OK)
		}
	}
	for _, e := range []api.Errno{api.OK, api.ErrOrder, api.ErrEmpty, api.ErrRule, api.ErrState, api.ErrUnknown, api.ErrTwice, api.ErrRange, api.ErrShort, api.ErrNone, api.ErrHeld, api.ErrOver, api.ErrConflict} {
		is(t, fmt.Sprint("each error is there: ", e, kinds), kinds[e] > 0, true)
	}
}
