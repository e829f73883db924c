package office_test

import (
	"math"
	"slices"
	"strings"
	"testing"

	"flyover/api"
	"flyover/office"
)

var (
	anyInts    = []int{math.MinInt, -17, -1, 0, 1, 9, 1000, 1001, 999999999, 1 << 32, math.MaxInt}
	anyStrings = []string{"", "\n", " ", "#", "#0000000\n", "\x00", "\xff\n", "a", "m", "jet", "undo", "money", "late", "number \xff", "1 undo#0000000\n", "type", "type  ", strings.Repeat(" ", 4096), strings.Repeat("#", 1<<20), "late " + strings.Repeat("9", 4000), "1 " + strings.Repeat("a ", 100000) + "#1234567\n"}
)

// anyEvents returns events with two integers and a string, of which most are not accepted.
func anyEvents(a, b int, s string) [][]api.Event {
	var l [][]api.Event
	for _, kind := range []string{"type", "house", "flight", "match", "correct", "publish", "offer", "fund", "pay", "complain", "answer", "dismiss", "undo", s} {
		for _, names := range [][]string{nil, {s}, {"jet", s}, {s, s}} {
			for _, values := range [][]int{nil, {a}, {3, b}} {
				l = append(l, []api.Event{{Number: 1, Kind: kind, Names: names, Values: values}}, append(matched(), api.Event{Number: 12, Kind: kind, Names: names, Values: values, Text: s[:0]}))
			}
		}
	}
	return append(l, nil, make([]api.Event, 1000), make([]api.Event, 1001), []api.Event{{Number: a, Kind: s, Names: make([]string, 1000), Values: make([]int, 1000), Text: s}})
}

// try calls all functions of events with two integers and a string.
func try(l []api.Event, a, b int, s string) {
	office.Replay(l)
	office.AsOf(l, a)
	office.Eligible(l)
	office.Late(l, b)
	office.Number(l, s)
	office.Chain(l, s)
	office.ByTypes(l, s)
	office.Story(l, s)
	office.Matched(l, s)
	office.Published(l, s, "a")
	office.Published(l, "m", s)
	office.Mark(l, s, api.Key{byte(a)})
	office.CheckMark(l, s, api.Key{byte(a)}, api.Key{byte(b)})
	for _, chain := range [][]office.Item{nil, {item(s, a)}, {item("f", 50000000), item(s, b)}, make([]office.Item, 1000)} {
		office.CheckChain(l, s, chain, b)
		office.CheckChain(l, "a", chain, a)
	}
	if len(l) == 0 {
		return
	}
	last := l[len(l)-1]
	office.CheckEvent(last)
	office.Accepts(l, last)
	office.Accepts(l[:len(l)-1], last)
	office.Append("", last)
}

// P1: each function terminates and does not panic, for all arguments.
func TestAnyArguments(t *testing.T) {
	for i, a := range anyInts {
		for _, l := range anyEvents(a, anyInts[(i+3)%len(anyInts)], "jet") {
			try(l, a, anyInts[(i+5)%len(anyInts)], "a")
		}
	}
	for i, s := range anyStrings {
		a := anyInts[i%len(anyInts)]
		for _, l := range anyEvents(3, a, s) {
			try(l, a, 5, s)
		}
	}
}

// P1: logs and lines of any bytes.
func TestAnyStrings(t *testing.T) {
	log := recorded(t, matched("correct jet 5 7", "complain x a 5 5", "undo"))
	var none *office.Session
	use := func(s string) {
		office.Recover(s)
		office.Append(s, event(1, "undo"))
		session, e := office.Open(s)
		is(t, "a session, or an error", session == nil, e != api.OK)
		session.Events()
		session.Log()
		opened := office.New()
		for _, line := range strings.Split(s, "\n") {
			opened.Do(line)
		}
		opened.Do(s)
		none.Do(s)
		is(t, "events have a log", len(opened.Events()) == 0, opened.Log() == "")
	}
	for _, s := range anyStrings {
		use(s)
	}
	r := seeded()
	lines := strings.Join(with(slices.Concat(matches(), []string{"correct jet 5 7", "complain x a 5 5", "undo", "late 5", "map m", "chain a", "money", "eligible", "matched jet"})...), "\n")
	for range 2000 {
		for _, base := range []string{log, lines} {
			s := []byte(base)
			for range r.Intn(6) {
				s[r.Intn(len(s))] = "\n #019af\xff"[r.Intn(9)]
			}
			use(string(s[:r.Intn(len(s)+1)]))
		}
	}
}

// spoil changes all that a register has.
func spoil(r office.Register) {
	for i := range r.Maps {
		for k := range r.Maps[i].Levels {
			r.Maps[i].Levels[k] = 7
		}
		_ = append(r.Maps[i].Levels, 7)
	}
	clear(r.Types)
	clear(r.Houses)
	clear(r.Flights)
	clear(r.Maps)
	clear(r.Offers)
	clear(r.Complaints)
}

// spoilEvents changes all that events have.
func spoilEvents(l []api.Event) {
	for i := range l {
		for k := range l[i].Names {
			l[i].Names[k] = "spoilt"
		}
		for k := range l[i].Values {
			l[i].Values[k] = 7
		}
		l[i].Names, l[i].Values = append(l[i].Names, "spoilt"), append(l[i].Values, 7)
	}
	clear(l)
}

// Arguments are not modified, and results share no memory with them or with each other.
func TestMemory(t *testing.T) {
	lines := slices.Concat(matches(), []string{"correct jet 5 1000", "house c 5 900", "publish n 5", "offer o a 5 7", "complain x a 5 5", "undo", "complain x a 5 6"})
	l := told(lines...)
	// Further elements would fit where a result shared the memory.
	l = append(make([]api.Event, 0, 100), l...)
	chain, _ := office.Chain(l, "a")
	areRight := func() {
		t.Helper()
		areEvents(t, "the events", l, told(lines...))
		is(t, "no event beyond the last one", sameEvent(l[:len(l)+1][len(l)], api.Event{}), true)
		are(t, "the chain", chain, items(50000000, "f", "g", "h"))
	}
	r := replayed(t, l)
	first, second := r.Maps[0].Levels, r.Maps[1].Levels
	_ = append(first, 9)
	first[0] = 9
	are(t, "the levels of the other map", second, []int{71, 44, 74})
	spoil(r)
	areRight()
	asOf, _ := office.AsOf(l, 4)
	spoil(asOf)
	areRight()
	story, _ := office.Story(l, "a")
	areRight()
	spoilEvents(story)
	areRight()
	again, _ := office.Chain(l, "a")
	clear(again)
	types, _ := office.ByTypes(l, "a")
	clear(types)
	eligible, _ := office.Eligible(l)
	clear(eligible)
	late, _ := office.Late(l, 100)
	clear(late)
	office.CheckChain(l, "a", chain, 71)
	office.Accepts(l, event(len(l)+1, "undo"))
	office.Append("", l[0])
	areRight()
	got, _, _ := office.Recover(recorded(t, l))
	spoilEvents(got)
	areRight()
}

// What a session gives out is not what it keeps.
func TestMemoryOfSessions(t *testing.T) {
	s := opened(t, told())
	log := s.Log()
	spoilEvents(s.Events())
	areEvents(t, "Events of an opened session", s.Events(), told())
	s.Do("fund 3 5")
	spoilEvents(s.Events())
	areEvents(t, "Events of a session", s.Events(), told("fund 3 5"))
	before := s.Events()
	s.Do("undo")
	s.Do("fund 3 6")
	areEvents(t, "Events that were given out", before, told("fund 3 5"))
	is(t, "Log", strings.HasPrefix(s.Log(), log), true)
}
