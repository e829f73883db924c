package office_test

import (
	"fmt"
	"math/rand"
	"slices"
	"strconv"
	"strings"
	"testing"

	"flyover/api"
	"flyover/office"
	"flyover/sound"
)

// is compares a result with the expected one.
func is[T comparable](t *testing.T, what string, got, want T) {
	t.Helper()
	if got != want {
		t.Errorf("%s: got %v, want %v", what, got, want)
	}
}

// are compares a list with the expected one; nil and empty lists are equal.
func are[T comparable](t *testing.T, what string, got, want []T) {
	t.Helper()
	if !slices.Equal(got, want) {
		t.Errorf("%s: got %v, want %v", what, got, want)
	}
}

func sameEvent(x, y api.Event) bool {
	return x.Number == y.Number && x.Kind == y.Kind && x.Text == y.Text && slices.Equal(x.Names, y.Names) && slices.Equal(x.Values, y.Values)
}

// areEvents compares events with the expected ones.
func areEvents(t *testing.T, what string, got, want []api.Event) {
	t.Helper()
	if !slices.EqualFunc(got, want, sameEvent) {
		t.Errorf("%s: got %v, want %v", what, got, want)
	}
}

func sameMap(x, y office.Map) bool {
	return x.Name == y.Name && x.Day == y.Day && slices.Equal(x.Levels, y.Levels)
}

func sameRegister(x, y office.Register) bool {
	same := x.Day == y.Day && x.Fund == y.Fund && slices.EqualFunc(x.Maps, y.Maps, sameMap)
	same = same && slices.Equal(x.Types, y.Types) && slices.Equal(x.Houses, y.Houses) && slices.Equal(x.Flights, y.Flights)
	return same && slices.Equal(x.Offers, y.Offers) && slices.Equal(x.Complaints, y.Complaints)
}

// isRegister compares a register with the expected one.
func isRegister(t *testing.T, what string, got, want office.Register) {
	t.Helper()
	if !sameRegister(got, want) {
		t.Errorf("%s: got %+v, want %+v", what, got, want)
	}
}

// seeded returns numbers that are the same in each run.
func seeded() *rand.Rand { return rand.New(rand.NewSource(1)) }

// one returns one of some.
func one[T any](r *rand.Rand, l ...T) T { return l[r.Intn(len(l))] }

func item(name string, energy int) office.Item { return office.Item{Name: name, Energy: energy} }

// event returns the event of a line: its kind, its names, and its values.
func event(number int, line string) api.Event {
	words := strings.Split(line, " ")
	e := api.Event{Number: number, Kind: words[0]}
	for _, word := range words[1:] {
		if n, err := strconv.Atoi(word); err == nil {
			e.Values = append(e.Values, n)
		} else {
			e.Names = append(e.Names, word)
		}
	}
	return e
}

// events returns those of lines, with the Numbers from 1 on.
func events(lines ...string) []api.Event {
	var l []api.Event
	for i, line := range lines {
		l = append(l, event(i+1, line))
	}
	return l
}

// sample has the lines of the events J of the document's examples.
func sample() []string {
	return []string{"type jet 1 100000000", "house a 1 500", "house b 1 1", "flight f jet 2 10", "flight g jet 2 20", "flight h jet 2 30", "publish m 3", "fund 3 900"}
}

// with returns J and further lines.
func with(lines ...string) []string { return slices.Concat(sample(), lines) }

// told returns the events J and further ones.
func told(lines ...string) []api.Event { return events(with(lines...)...) }

// matches has the lines by which a type may be corrected after J.
func matches() []string {
	return []string{"match f 4 40000000", "match g 4 50000000", "match h 4 60000000"}
}

// matched returns the events J, matches, and further ones.
func matched(lines ...string) []api.Event { return told(slices.Concat(matches(), lines)...) }

// each returns a line for each number from 0 on, before n, which stands in place of #.
func each(n int, line string) []string {
	var l []string
	for i := range n {
		l = append(l, strings.ReplaceAll(line, "#", strconv.Itoa(i)))
	}
	return l
}

// registerOf returns the register after J.
func registerOf() office.Register {
	return office.Register{
		Day: 3, Fund: 900,
		Types:   []office.Type{{Name: "jet", Energy: 100000000, Factor: 1000}},
		Houses:  []office.House{{Name: "a", Share: 500}, {Name: "b", Share: 1}},
		Flights: []office.Flight{{Name: "f", Type: "jet", Day: 2, Minute: 10, Heard: -1}, {Name: "g", Type: "jet", Day: 2, Minute: 20, Heard: -1}, {Name: "h", Type: "jet", Day: 2, Minute: 30, Heard: -1}},
		Maps:    []office.Map{{Name: "m", Day: 3, Levels: []int{71, 44}}},
	}
}

// replayed returns the register after events without an error.
func replayed(t *testing.T, l []api.Event) office.Register {
	t.Helper()
	r, n, e := office.Replay(l)
	if n != 0 || e != api.OK {
		t.Fatalf("Replay of %v: got %d, %d", l, n, e)
	}
	return r
}

// recorded returns the log of events without an error.
func recorded(t *testing.T, l []api.Event) string {
	t.Helper()
	log := ""
	for _, x := range l {
		longer, e := office.Append(log, x)
		if e != api.OK {
			t.Fatalf("Append of %v: got %d", x, e)
		}
		log = longer
	}
	return log
}

// broken has events with an error, the number of the first one with one, and the error.
type broken struct {
	l []api.Event
	n int
	e api.Errno
}

// allBroken returns some of each kind.
func allBroken() []broken {
	many := events(each(1001, "fund # 1")...)
	wrong := told()
	wrong[4].Text = "x"
	return []broken{
		{many, 0, api.ErrMany}, {make([]api.Event, 1001), 0, api.ErrMany}, {make([]api.Event, 1000), 1, api.ErrRange}, {wrong, 5, api.ErrForm}, {told("fund 2 1", "undo"), 9, api.ErrState},
		{told("undo", "fund 3 1", "undo 3"), 11, api.ErrShape}, {slices.Concat(told(), told()), 9, api.ErrOrder}, {told()[1:], 1, api.ErrOrder}, {events("undo"), 1, api.ErrEmpty}, {told("undo", "undo"), 10, api.ErrRule},
	}
}

// counting returns the events that count, by the definition: an undo takes back the last one.
func counting(l []api.Event) []api.Event {
	var counts []api.Event
	for _, x := range l {
		if x.Kind == "undo" {
			counts = counts[:len(counts)-1]
		} else {
			counts = append(counts, x)
		}
	}
	return counts
}

// numberOf returns the energy and the level of a house in a register, by the definition.
func numberOf(r office.Register, house string) (int, int) {
	sum := 0
	for _, h := range r.Houses {
		for _, f := range r.Flights {
			for _, t := range r.Types {
				if h.Name == house && t.Name == f.Type {
					sum += t.Energy * t.Factor * h.Share / 1000000
				}
			}
		}
	}
	level := -1
	for k := range api.MaxLevel + 1 {
		if least, _ := sound.Threshold(k); least <= sum {
			level = k
		}
	}
	return sum, level
}

// folded returns the register after events that count, by the definition.
func folded(counts []api.Event) office.Register {
	var r office.Register
	for _, x := range counts {
		r.Day = x.Values[0]
		name, other, value := "", "", 0
		if len(x.Names) > 0 {
			name = x.Names[0]
		}
		if len(x.Names) > 1 {
			other = x.Names[1]
		}
		if len(x.Values) > 1 {
			value = x.Values[1]
		}
		switch x.Kind {
		case "type":
			r.Types = append(r.Types, office.Type{Name: name, Energy: value, Factor: 1000})
		case "house":
			r.Houses = append(r.Houses, office.House{Name: name, Share: value})
		case "flight":
			r.Flights = append(r.Flights, office.Flight{Name: name, Type: other, Day: r.Day, Minute: value, Heard: -1})
		case "match":
			for i := range r.Flights {
				if r.Flights[i].Name == name {
					r.Flights[i].Heard = value
				}
			}
		case "correct":
			for i := range r.Types {
				if r.Types[i].Name == name {
					r.Types[i].Factor = value
				}
			}
		case "publish":
			m := office.Map{Name: name, Day: r.Day}
			for _, h := range r.Houses {
				_, level := numberOf(r, h.Name)
				m.Levels = append(m.Levels, level)
			}
			r.Maps = append(r.Maps, m)
		case "offer":
			r.Offers = append(r.Offers, office.Offer{Name: name, House: other, Amount: value})
		case "fund":
			r.Fund += value
		case "pay":
			for i := range r.Offers {
				if r.Offers[i].Name == name {
					r.Offers[i].Paid = true
					r.Fund -= r.Offers[i].Amount
				}
			}
		case "complain":
			r.Complaints = append(r.Complaints, office.Complaint{Name: name, House: other, Day: r.Day, Minute: value, Answered: -1})
		case "answer", "dismiss":
			for i := range r.Complaints {
				if r.Complaints[i].Name == name {
					r.Complaints[i].Flight, r.Complaints[i].Answered = other, r.Day
				}
			}
		}
	}
	return r
}

// has is the names of the things of a register, by what they are.
func has(r office.Register) map[string][]string {
	names := map[string][]string{}
	for _, x := range r.Types {
		names["type"] = append(names["type"], x.Name)
	}
	for _, x := range r.Houses {
		names["house"] = append(names["house"], x.Name)
	}
	for _, x := range r.Flights {
		names["flight"] = append(names["flight"], x.Name)
	}
	for _, x := range r.Maps {
		names["map"] = append(names["map"], x.Name)
	}
	for _, x := range r.Offers {
		names["offer"] = append(names["offer"], x.Name)
	}
	for _, x := range r.Complaints {
		names["complaint"] = append(names["complaint"], x.Name)
	}
	return names
}

// asked is which things the names of each kind are; the first one of those that begin with + is new.
func asked(kind string) []string {
	return strings.Fields(map[string]string{
		"type": "+type", "house": "+house", "flight": "+flight type", "match": "flight", "correct": "type", "publish": "+map", "offer": "+offer house",
		"pay": "offer", "complain": "+complaint house", "answer": "complaint flight", "dismiss": "complaint",
	}[kind])
}

// refused returns the error with which an event of the right form is not accepted after events, by the definition; the limits of how many there are are not asked for.
func refused(l []api.Event, e api.Event) api.Errno {
	counts := counting(l)
	r := folded(counts)
	if e.Number != len(l)+1 {
		return api.ErrOrder
	}
	if e.Kind == "undo" {
		if len(counts) == 0 {
			return api.ErrEmpty
		}
		if last := counts[len(counts)-1].Kind; last == "publish" || last == "pay" {
			return api.ErrRule
		}
		return api.OK
	}
	if e.Values[0] < r.Day {
		return api.ErrState
	}
	names := has(r)
	for i, thing := range asked(e.Kind) {
		if thing[0] != '+' && !slices.Contains(names[thing], e.Names[i]) {
			return api.ErrUnknown
		}
	}
	for i, thing := range asked(e.Kind) {
		if thing[0] == '+' && slices.Contains(names[thing[1:]], e.Names[i]) {
			return api.ErrTwice
		}
	}
	return refusedBy(r, e)
}

// refusedBy returns the error that an event of some kind has by the rules of this kind, by the definition.
func refusedBy(r office.Register, e api.Event) api.Errno {
	if len(e.Values) > 1 {
		lowest := map[string]int{"correct": 1, "offer": 1, "fund": 1}[e.Kind]
		highest := map[string]int{"type": 1000000000, "house": 1000, "flight": 1439, "match": 1000000000, "correct": 2000, "offer": 100000000, "fund": 100000000, "complain": 1439}[e.Kind]
		if e.Values[1] < lowest || e.Values[1] > highest {
			return api.ErrRange
		}
	}
	switch e.Kind {
	case "match":
		for _, f := range r.Flights {
			if f.Name == e.Names[0] && f.Heard >= 0 {
				return api.ErrTwice
			}
		}
	case "correct":
		n := 0
		for _, f := range r.Flights {
			if f.Type == e.Names[0] && f.Heard >= 0 {
				n++
			}
		}
		if n < 3 {
			return api.ErrShort
		}
	case "publish":
		if len(r.Houses) == 0 {
			return api.ErrEmpty
		}
	case "offer":
		if len(r.Maps) == 0 {
			return api.ErrNone
		}
		if !loud(r, e.Names[1]) {
			return api.ErrRule
		}
		for _, o := range r.Offers {
			if o.House == e.Names[1] {
				return api.ErrHeld
			}
		}
	case "pay":
		for _, o := range r.Offers {
			if o.Name == e.Names[0] && o.Paid {
				return api.ErrOver
			}
			if o.Name == e.Names[0] && r.Fund < o.Amount {
				return api.ErrShort
			}
		}
	case "answer", "dismiss":
		return refusedAnswer(r, e)
	}
	return api.OK
}

func refusedAnswer(r office.Register, e api.Event) api.Errno {
	for _, c := range r.Complaints {
		if c.Name != e.Names[0] {
			continue
		}
		if c.Answered >= 0 {
			return api.ErrOver
		}
		for _, f := range r.Flights {
			if e.Kind == "dismiss" && f.Day == c.Day {
				return api.ErrRule
			}
			if e.Kind == "answer" && f.Name == e.Names[1] && f.Day != c.Day {
				return api.ErrConflict
			}
		}
	}
	return api.OK
}

// loud reports whether a house has a level of at least 60 in the last map, by the definition.
func loud(r office.Register, house string) bool {
	last := r.Maps[len(r.Maps)-1].Levels
	for i, level := range last {
		if r.Houses[i].Name == house && level >= 60 {
			return true
		}
	}
	return false
}

// someEvent returns an event of the right form, with names that are there, or new, or neither.
func someEvent(r *rand.Rand, l []api.Event) api.Event {
	reg := folded(counting(l))
	names := has(reg)
	kind := one(r, "type", "house", "house", "flight", "flight", "flight", "match", "match", "match", "correct", "publish", "publish", "offer", "offer", "offer", "fund", "fund", "pay", "pay", "pay", "complain", "complain", "answer", "answer", "dismiss", "undo")
	e := api.Event{Number: len(l) + 1, Kind: kind}
	if r.Intn(40) == 0 {
		e.Number = one(r, len(l)+2, max(1, len(l)))
	}
	for _, thing := range asked(kind) {
		known := names[strings.TrimPrefix(thing, "+")]
		name := thing[len(thing)-1:] + strconv.Itoa(len(known))
		if len(known) > 0 && (thing[0] != '+' || r.Intn(10) == 0) && r.Intn(20) > 0 {
			name = one(r, known...)
		}
		e.Names = append(e.Names, name)
	}
	if kind == "undo" {
		return e
	}
	day := max(0, reg.Day+one(r, 0, 0, 0, 0, 0, 1, 1, 2, 20, -1))
	e.Values = append(e.Values, day)
	values := map[string][]int{
		"type": {r.Intn(1000000000), 999999999, 0, 100000000}, "house": {r.Intn(1001), 500, 1000, 1000, 1000, 0, 1001}, "flight": {r.Intn(1440), 0, 1439, 1440}, "match": {r.Intn(1000000000), 0, 999999999},
		"correct": {r.Intn(2001), 1, 2000, 2001, 0, 500}, "offer": {1 + r.Intn(1000), 1 + r.Intn(1000), 500, 500, 1, 100000000, 0, 100000001}, "fund": {1 + r.Intn(1000), 500, 1, 100000000, 0, 100000001}, "complain": {r.Intn(1440), 0, 1439, 1440},
	}[kind]
	if values != nil {
		e.Values = append(e.Values, one(r, values...))
	}
	return e
}

// someJournal returns up to n events that are accepted, one after the other.
func someJournal(r *rand.Rand, n int) []api.Event {
	var l []api.Event
	for range n {
		if e := someEvent(r, l); refused(l, e) == api.OK && !full(l, e.Kind) {
			l = append(l, e)
		}
	}
	return l
}

// full reports whether there are as many things as there may be of those that a kind of events adds.
func full(l []api.Event, kind string) bool {
	names := has(folded(counting(l)))
	limits := map[string]int{"type": 8, "house": 32, "flight": 64, "map": 16, "offer": 32, "complaint": 64}
	things := asked(kind)
	if len(things) == 0 || things[0][0] != '+' {
		return false
	}
	return len(names[things[0][1:]]) == limits[things[0][1:]]
}

// line returns that of an event in the console.
func line(e api.Event) string {
	return strings.Join(slices.Concat([]string{e.Kind}, e.Names, strings.Fields(strings.Trim(fmt.Sprint(e.Values), "[]"))), " ")
}
