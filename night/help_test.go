package night_test

import (
	"fmt"
	"math/rand"
	"slices"
	"strconv"
	"testing"

	"flyover/api"
	"flyover/night"
)

// is compares a result with the expected one.
func is[T comparable](t *testing.T, what string, got, want T) {
	t.Helper()
	if got != want {
		t.Errorf("%s: got %v, want %v", what, got, want)
	}
}

// are compares a list with the expected one; nil and empty lists are equal.
func are[T comparable](t *testing.T, what string, got, want []T) {
	t.Helper()
	if !slices.Equal(got, want) {
		t.Errorf("%s: got %v, want %v", what, got, want)
	}
}

// seeded returns numbers that are the same in each run.
func seeded() *rand.Rand { return rand.New(rand.NewSource(1)) }

// from returns an integer from low to high.
func from(r *rand.Rand, low, high int) int { return low + r.Intn(high-low+1) }

// one returns one of some.
func one[T any](r *rand.Rand, l ...T) T { return l[r.Intn(len(l))] }

func span(from, to int) api.Span { return api.Span{From: from, To: to} }

func move(flight, airline, kind string, day, minute int) night.Move {
	return night.Move{Flight: flight, Airline: airline, Type: kind, Day: day, Minute: minute}
}

func request(kind string, hour, value int) night.Request {
	return night.Request{Type: kind, Hour: hour, Value: value}
}

func exception(flight, reason string, day int, evidence api.Key) night.Exception {
	return night.Exception{Flight: flight, Reason: reason, Day: day, Evidence: evidence}
}

// rules returns the rules R of the document's examples.
func rules() night.Rules {
	return night.Rules{
		Night: span(1380, 360), Curfew: span(30, 300),
		Types: []night.Type{{Name: "jet", Count: 4, Fee: 100}, {Name: "prop", Count: 1, Fee: 20}}, Quota: 10,
		Reasons: []string{"storm", "help"}, Deadline: 5, Fine: 500, Rate: 2,
	}
}

// changedRules returns R with a change.
func changedRules(f func(r *night.Rules)) night.Rules {
	r := rules()
	f(&r)
	return r
}

// moves returns the movements M of the document's examples.
func moves() []night.Move {
	return []night.Move{
		move("f1", "air", "jet", 3, 1400), move("f2", "air", "jet", 4, 20),
		move("f3", "sky", "prop", 4, 100), move("f4", "sky", "prop", 4, 600),
	}
}

// asked returns the requests of the document's examples.
func asked() []night.Request {
	return []night.Request{request("jet", 0, 9), request("jet", 0, 8), request("prop", 0, 3), request("prop", 1, 2)}
}

// evidence returns that for a flight and a reason.
func evidence(r night.Rules, flight, reason string) api.Key {
	key, _ := night.Evidence(r, flight, reason)
	return key
}

// arguments are those of all functions together.
type arguments struct {
	rules      night.Rules
	moves      []night.Move
	exceptions []night.Exception
	requests   []night.Request
	granted    []int
	prices     [2]int
	span       api.Span
	nights     api.Span
	day        int
	minute     int
	night      int
	flight     string
	reason     string
	airline    string
	text       string
}

// right returns arguments without an error: those of the examples, with exceptions for f1 and f3.
func right() arguments {
	r := rules()
	return arguments{
		rules: r, moves: moves(), requests: asked(),
		exceptions: []night.Exception{exception("f1", "help", 3, evidence(r, "f1", "help")), exception("f3", "storm", 9, evidence(r, "f3", "storm"))},
		granted:    []int{0, 1, 3}, prices: [2]int{2, 1},
		span: span(1380, 360), nights: span(3, 4), day: 4, minute: 20, night: 3,
		flight: "f3", reason: "storm", airline: "sky", text: "move f1 air jet 3 1400\n",
	}
}

// fault is a change of arguments, with the error that they have then.
type fault struct {
	change func(a *arguments)
	e      api.Errno
}

// ruleFaults returns those of rules, in the document's order.
func ruleFaults() []fault {
	return []fault{
		{func(a *arguments) { a.rules.Night = span(5, 5) }, api.ErrSpan},
		{func(a *arguments) { a.rules.Curfew = span(0, 1440) }, api.ErrSpan},
		{func(a *arguments) { a.rules.Curfew = span(30, 361) }, api.ErrRule},
		{func(a *arguments) { a.rules.Types = make([]night.Type, 17) }, api.ErrMany},
		{func(a *arguments) { a.rules.Types[0].Name = "7" }, api.ErrName},
		{func(a *arguments) { a.rules.Types[1].Name = "jet" }, api.ErrTwice},
		{func(a *arguments) { a.rules.Types[1].Count = 65 }, api.ErrRange},
		{func(a *arguments) { a.rules.Types[1].Fee = -1 }, api.ErrRange},
		{func(a *arguments) { a.rules.Quota = -1 }, api.ErrRange},
		{func(a *arguments) { a.rules.Reasons = make([]string, 9) }, api.ErrMany},
		{func(a *arguments) { a.rules.Reasons[0] = "" }, api.ErrName},
		{func(a *arguments) { a.rules.Reasons[1] = "storm" }, api.ErrTwice},
		{func(a *arguments) { a.rules.Deadline = 61 }, api.ErrRange},
		{func(a *arguments) { a.rules.Fine = -1 }, api.ErrRange},
		{func(a *arguments) { a.rules.Rate = 0 }, api.ErrRange},
	}
}

// moveFaults returns those of movements, in the document's order.
func moveFaults() []fault {
	return []fault{
		{func(a *arguments) { a.moves = make([]night.Move, 257) }, api.ErrMany},
		{func(a *arguments) { a.moves[0].Flight = "f 1" }, api.ErrName},
		{func(a *arguments) { a.moves[1].Flight = "f1" }, api.ErrTwice},
		{func(a *arguments) { a.moves[1].Airline = "7" }, api.ErrName},
		{func(a *arguments) { a.moves[1].Type = "kite" }, api.ErrUnknown},
		{func(a *arguments) { a.moves[1].Day = 0 }, api.ErrRange},
		{func(a *arguments) { a.moves[1].Minute = 1440 }, api.ErrRange},
	}
}

// exceptionFaults returns those of exceptions, in the document's order.
func exceptionFaults() []fault {
	return []fault{
		{func(a *arguments) { a.exceptions = make([]night.Exception, 257) }, api.ErrMany},
		{func(a *arguments) { a.exceptions[0].Flight = "f9" }, api.ErrUnknown},
		{func(a *arguments) { a.exceptions[1].Flight = "f1" }, api.ErrTwice},
		{func(a *arguments) { a.exceptions[1].Reason = "" }, api.ErrName},
		{func(a *arguments) { a.exceptions[1].Day = -1 }, api.ErrRange},
	}
}

// requestFaults returns those of requests, in the document's order.
func requestFaults() []fault {
	return []fault{
		{func(a *arguments) { a.requests = make([]night.Request, 9) }, api.ErrMany},
		{func(a *arguments) { a.requests[1].Type = "kite" }, api.ErrUnknown},
		{func(a *arguments) { a.requests[1].Hour = 7 }, api.ErrRange},
		{func(a *arguments) { a.requests[1].Value = 1001 }, api.ErrRange},
	}
}

// inOrder tests that of two errors the first one decides, and that nothing but zero values is beside it. The function f returns its error, and whether all of its other results are zero values.
func inOrder(t *testing.T, what string, f func(a arguments) (api.Errno, bool), faults ...[]fault) {
	t.Helper()
	e, _ := f(right())
	is(t, "error of "+what, e, api.OK)
	all := slices.Concat(faults...)
	for i, x := range all {
		for j, y := range all[i:] {
			a := right()
			y.change(&a)
			x.change(&a)
			e, zero := f(a)
			is(t, fmt.Sprint("error of ", what, " with the faults ", i, " and ", i+j), e, x.e)
			is(t, "zero values beside it", zero, true)
		}
	}
}

// walked returns the minutes of a span of the day, one after the other.
func walked(s api.Span) []int {
	var l []int
	for minute := s.From; minute != s.To; {
		l = append(l, minute)
		minute++
		if minute == 1440 {
			minute = 0
		}
	}
	return l
}

// someSpan returns a span of the day; many are short, or end at midnight.
func someSpan(r *rand.Rand) api.Span {
	s := span(one(r, 0, 1380, 1439, r.Intn(1440)), 0)
	s.To = one(r, 0, 360, 1439, r.Intn(1440), (s.From+from(r, 1, 90))%1440)
	if s.To == s.From {
		s.To = (s.From + 1) % 1440
	}
	return s
}

// someRules returns rules with one to four types.
func someRules(r *rand.Rand) night.Rules {
	x := night.Rules{Night: someSpan(r), Quota: r.Intn(20), Deadline: r.Intn(4), Fine: r.Intn(1000), Rate: from(r, 1, 3)}
	minutes := walked(x.Night)
	first := r.Intn(len(minutes))
	last := from(r, first, len(minutes)-1)
	x.Curfew = span(minutes[first], (minutes[last]+1)%1440)
	for i := range from(r, 1, 4) {
		x.Types = append(x.Types, night.Type{Name: "t" + strconv.Itoa(i), Count: r.Intn(6), Fee: r.Intn(100)})
	}
	x.Reasons = []string{"storm", "help", "war"}[:r.Intn(4)]
	for i := range x.Key {
		x.Key[i] = byte(r.Intn(256))
	}
	return x
}

// someMoves returns up to n movements by rules, on a few days; many are at the ends of the night and the curfew.
func someMoves(r *rand.Rand, x night.Rules, n int) []night.Move {
	day := one(r, 1, 2, 50, night.Day, api.MaxDay-2)
	var l []night.Move
	for i := range r.Intn(n + 1) {
		minute := one(r, x.Night.From, x.Night.To, x.Curfew.From, x.Curfew.To, r.Intn(1440), (x.Night.From+r.Intn(60))%1440)
		minute = (minute + from(r, -1, 1) + 1440) % 1440
		l = append(l, move("f"+strconv.Itoa(i), one(r, "air", "sky", "sea"), one(r, x.Types...).Name, day+r.Intn(3), minute))
	}
	return l
}

// someExceptions returns exceptions for some of the movements, of which many are valid.
func someExceptions(r *rand.Rand, x night.Rules, l []night.Move) []night.Exception {
	var all []night.Exception
	for _, i := range r.Perm(len(l))[:r.Intn(len(l)+1)] {
		y := exception(l[i].Flight, one(r, "storm", "help", "fog"), l[i].Day+one(r, 0, x.Deadline, from(r, -1, x.Deadline+1)), api.Key{})
		y.Day = min(y.Day, api.MaxDay)
		y.Evidence = evidence(x, y.Flight, y.Reason)
		if r.Intn(6) == 0 {
			y.Evidence[r.Intn(8)]++
		}
		all = append(all, y)
	}
	return all
}

// someRequests returns up to n requests by rules; many have the same hour, the same value, or both.
func someRequests(r *rand.Rand, x night.Rules, n int) []night.Request {
	hours := (len(walked(x.Night)) + 59) / 60
	var l []night.Request
	for range r.Intn(n + 1) {
		l = append(l, request(one(r, x.Types...).Name, r.Intn(min(hours, one(r, 1, 2, 24))), r.Intn(one(r, 2, 5, 1001))))
	}
	return l
}
