package office

import (
	"flyover/api"
	"flyover/check"
	"flyover/list"
	"flyover/sound"
)

// The kinds of events that are not only carried out by functions.
const (
	publish = "publish"
	pay     = "pay"
	undo    = "undo"
)

// final has the kinds of events that are not undone.
var final = [2]string{publish, pay}

// event is an event whose kind has what is asked for.
type event struct{ api.Event }

func (e event) name() string  { return e.Names[0] }
func (e event) other() string { return e.Names[1] }
func (e event) day() int      { return e.Values[0] }
func (e event) value() int    { return e.Values[1] }

// kind is what the events of one kind have, and how they are carried out.
type kind struct {
	// Where each name is looked for, and whether the first one must be new there.
	names  []place
	adds   bool
	values int
	// The error by which a register does not accept an event, or OK; and what an event that is accepted changes.
	check  func(r Register, e event) api.Errno
	change func(r *Register, e event)
	// Whether an event that counts is in the story of a house.
	about func(x entry, house string) bool
}

// kinds are all kinds by their words.
type kinds map[string]kind

func allKinds() kinds {
	types, houses, flights, maps := Register.typeAt, Register.houseAt, Register.flightAt, Register.mapAt
	offers, complaints := Register.offerAt, Register.complaintAt
	return kinds{
		"type":     {[]place{types}, true, 2, checkType, addType, everywhere},
		"house":    {[]place{houses}, true, 2, checkHouse, addHouse, ofItself},
		"flight":   {[]place{flights, types}, true, 2, checkFlight, addFlight, everywhere},
		"match":    {[]place{flights}, false, 2, checkMatch, match, everywhere},
		"correct":  {[]place{types}, false, 2, checkCorrection, correct, everywhere},
		publish:    {[]place{maps}, true, 1, checkMap, addMap, onceThere},
		"offer":    {[]place{offers, houses}, true, 2, checkOffer, addOffer, ofHouse},
		"fund":     {nil, false, 2, checkFund, addMoney, everywhere},
		pay:        {[]place{offers}, false, 1, checkPayment, payOffer, ofOffer},
		"complain": {[]place{complaints, houses}, true, 2, checkComplaint, addComplaint, ofHouse},
		"answer":   {[]place{complaints, flights}, false, 1, checkAnswer, answer, ofComplaint},
		"dismiss":  {[]place{complaints}, false, 1, checkDismissal, answer, ofComplaint},
		undo:       {},
	}
}

// form returns that of the words after the kind.
func (k kind) form() form {
	return form{len(k.names), k.values}
}

func checkName(s string) api.Errno {
	return check.That(sound.IsName(s), api.ErrName)
}

func checkValue(n int) api.Errno {
	return check.Within(n, 0, api.MaxNumber)
}

// check returns the first error of an event, or OK.
func (all kinds) check(e api.Event) api.Errno {
	k, known := all[e.Kind]
	return check.First(
		check.Within(e.Number, 1, api.MaxEvents),
		check.That(known, api.ErrKind),
		check.That(form{len(e.Names), len(e.Values)} == k.form(), api.ErrShape),
		check.Each(e.Names, checkName),
		check.Each(e.Values, checkValue),
		check.That(e.Text == "", api.ErrForm),
	)
}

// CheckEvent returns the first error of an event, or OK.
func CheckEvent(e api.Event) api.Errno {
	return allKinds().check(e)
}

// checkNames returns ErrUnknown for names of which one is not there, ErrTwice if a new one is there already, or OK.
func (k kind) checkNames(r Register, names []string) api.Errno {
	twice := false
	for i, name := range names {
		known := k.names[i](r, name) != none
		switch {
		case k.adds && i == 0:
			twice = known
		case !known:
			return api.ErrUnknown
		}
	}
	return check.That(!twice, api.ErrTwice)
}

// accepts returns the error by which a register does not accept an event of the kind, or OK.
func (k kind) accepts(r Register, e event) api.Errno {
	if no := check.First(check.That(e.day() >= r.Day, api.ErrState), k.checkNames(r, e.Names)); no != api.OK {
		return no
	}
	return k.check(r, e)
}

// after returns a register after an event of the kind, which it accepts.
func (k kind) after(r Register, e event) Register {
	// The lists of the register before are not changed: a change gives it new ones.
	k.change(&r, e)
	r.Day = e.day()
	return r
}

func checkType(r Register, e event) api.Errno {
	return check.First(check.Within(e.value(), 0, MaxEmission), room(r.Types, MaxTypes))
}

func addType(r *Register, e event) {
	r.Types = added(r.Types, Type{Name: e.name(), Energy: e.value(), Factor: Whole})
}

func checkHouse(r Register, e event) api.Errno {
	return check.First(check.Within(e.value(), 0, Whole), room(r.Houses, MaxHouses))
}

func addHouse(r *Register, e event) {
	r.Houses = added(r.Houses, House{Name: e.name(), Share: e.value()})
}

func checkMinute(n int) api.Errno {
	return check.Within(n, 0, Day-1)
}

func checkFlight(r Register, e event) api.Errno {
	return check.First(checkMinute(e.value()), room(r.Flights, MaxFlights))
}

func addFlight(r *Register, e event) {
	r.Flights = added(r.Flights, Flight{Name: e.name(), Type: e.other(), Day: e.day(), Minute: e.value(), Heard: none})
}

func checkMatch(r Register, e event) api.Errno {
	return check.First(
		check.Within(e.value(), 0, MaxEmission),
		check.That(!r.flight(e.name()).isMatched(), api.ErrTwice),
	)
}

func match(r *Register, e event) {
	r.Flights = changed(r.Flights, e.name(), func(f *Flight) { f.Heard = e.value() })
}

func checkCorrection(r Register, e event) api.Errno {
	return check.First(
		check.Within(e.value(), 1, MaxFactor),
		check.That(len(r.matched(e.name())) >= Enough, api.ErrShort),
	)
}

func correct(r *Register, e event) {
	r.Types = changed(r.Types, e.name(), func(t *Type) { t.Factor = e.value() })
}

func checkMap(r Register, e event) api.Errno {
	return check.First(check.That(len(r.Houses) > 0, api.ErrEmpty), room(r.Maps, MaxMaps))
}

func addMap(r *Register, e event) {
	levels := list.Mapped(r.Houses, func(h House) int {
		_, level := r.number(h)
		return level
	})
	r.Maps = added(r.Maps, Map{Name: e.name(), Day: e.day(), Levels: levels})
}

func checkAmount(n int) api.Errno {
	return check.Within(n, 1, MaxAmount)
}

func checkOffer(r Register, e event) api.Errno {
	return check.First(
		checkAmount(e.value()),
		check.That(len(r.Maps) > 0, api.ErrNone),
		check.That(r.loud(e.other()), api.ErrRule),
		check.That(!r.offered(e.other()), api.ErrHeld),
		room(r.Offers, MaxOffers),
	)
}

func addOffer(r *Register, e event) {
	r.Offers = added(r.Offers, Offer{Name: e.name(), House: e.other(), Amount: e.value()})
}

func checkFund(r Register, e event) api.Errno {
	return check.First(checkAmount(e.value()), check.That(r.Fund+e.value() <= api.MaxMoney, api.ErrLarge))
}

func addMoney(r *Register, e event) {
	r.Fund += e.value()
}

func checkPayment(r Register, e event) api.Errno {
	o := r.offer(e.name())
	return check.First(check.That(!o.Paid, api.ErrOver), check.That(r.Fund >= o.Amount, api.ErrShort))
}

func payOffer(r *Register, e event) {
	r.Fund -= r.offer(e.name()).Amount
	r.Offers = changed(r.Offers, e.name(), func(o *Offer) { o.Paid = true })
}

func checkComplaint(r Register, e event) api.Errno {
	return check.First(checkMinute(e.value()), room(r.Complaints, MaxComplaints))
}

func addComplaint(r *Register, e event) {
	r.Complaints = added(r.Complaints, Complaint{Name: e.name(), House: e.other(), Day: e.day(), Minute: e.value(), Answered: none})
}

func checkAnswer(r Register, e event) api.Errno {
	c := r.complaint(e.name())
	return check.First(
		check.That(!c.isAnswered(), api.ErrOver),
		check.That(r.flight(e.other()).Day == c.Day, api.ErrConflict),
	)
}

func checkDismissal(r Register, e event) api.Errno {
	c := r.complaint(e.name())
	return check.First(
		check.That(!c.isAnswered(), api.ErrOver),
		check.That(!r.flownOn(c.Day), api.ErrRule),
	)
}

// answer answers a complaint: with a flight, if the event has one.
func answer(r *Register, e event) {
	r.Complaints = changed(r.Complaints, e.name(), func(c *Complaint) {
		c.Answered = e.day()
		if len(e.Names) > 1 {
			c.Flight = e.other()
		}
	})
}

func everywhere(x entry, house string) bool { return true }

func ofItself(x entry, house string) bool { return x.name() == house }

func ofHouse(x entry, house string) bool { return x.other() == house }

func ofOffer(x entry, house string) bool { return x.after.offer(x.name()).House == house }

func ofComplaint(x entry, house string) bool { return x.after.complaint(x.name()).House == house }

// onceThere is for all maps after the house was added.
func onceThere(x entry, house string) bool { return x.after.houseAt(house) != none }
