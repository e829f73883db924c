package night_test

import (
	"math"
	"slices"
	"strings"
	"testing"

	"flyover/api"
	"flyover/night"
)

var (
	anyInts    = []int{math.MinInt, -1, 0, 1, 8, 24, 60, 64, 1000, 1439, 1440, 100000, 100001, 1 << 62, math.MaxInt}
	anyStrings = []string{"", "\n", " ", "\x00", "\xff\n", "move", "move \n", "move a b c 1 1\n", "move     1 1\n", sampleString + "move", strings.Repeat(" ", 4096), strings.Repeat("move f a jet 1 1\n", 240), "move f a jet 1 " + strings.Repeat("9", 1<<20)}
)

// anyRules returns rules with two integers.
func anyRules(a, b int) []night.Rules {
	kinds := []night.Type{{Name: "jet", Count: a, Fee: b}, {Name: "prop", Count: b, Fee: a}}
	return []night.Rules{
		{}, rules(),
		{Night: span(a, b), Curfew: span(b, a), Types: kinds, Quota: a, Deadline: b, Fine: a, Rate: b},
		changedRules(func(r *night.Rules) { r.Night, r.Curfew = span(a, b), span(a, b) }),
		changedRules(func(r *night.Rules) { r.Types, r.Quota = kinds, b }),
		changedRules(func(r *night.Rules) { r.Types, r.Reasons = slices.Repeat(kinds, 1000), make([]string, 1000) }),
		changedRules(func(r *night.Rules) { r.Types, r.Reasons = nil, nil }),
		changedRules(func(r *night.Rules) { r.Deadline, r.Fine, r.Rate = a, b, a }),
	}
}

// tryMoves calls all functions of rules and movements with two integers.
func tryMoves(r night.Rules, a, b int) {
	for _, l := range [][]night.Move{nil, moves(), {move("f1", "air", "jet", a, b), move("f2", "air", "prop", b, a)}, make([]night.Move, 1000), append(moves(), move("", "", "", a, a))} {
		night.CheckMoves(r, l)
		night.Counts(r, l)
		night.Fees(r, l)
		night.Left(r, l)
		night.Spent(r, l, span(a, b))
		night.Spent(r, l, span(0, a))
		night.Respite(r, l, a)
		night.Print(r, l)
		for _, x := range [][]night.Exception{nil, {exception("f1", "storm", a, api.Key{})}, {exception("f2", "fog", b, api.Key{1}), exception("", "", a, api.Key{})}, make([]night.Exception, 1000)} {
			night.CheckExceptions(r, l, x)
			night.Cases(r, l, x)
			night.Bill(r, l, x, "air")
			night.Bill(r, l, x, "")
			for _, y := range x[:min(len(x), 2)] {
				night.Valid(r, l, y)
			}
		}
	}
}

// tryRequests calls all functions of rules and requests with two integers.
func tryRequests(r night.Rules, a, b int) {
	for _, l := range [][]night.Request{nil, asked(), {request("jet", a, b), request("prop", b, a)}, {request("jet", 0, a)}, make([]night.Request, 1000)} {
		night.Plan(r, l)
		night.Bound(r, l, [2]int{a, b})
		for _, granted := range [][]int{nil, {a}, {0, a, b}, slices.Repeat([]int{a}, 1000)} {
			night.Fits(r, l, granted)
		}
	}
}

// P1: each function terminates and does not panic, for all arguments.
func TestAnyArguments(t *testing.T) {
	for _, a := range anyInts {
		for _, b := range anyInts {
			night.Within(span(a, b), a)
			night.Within(span(0, b), a)
			night.Within(span(5, 4), b)
			night.Length(span(a, b))
			for _, r := range anyRules(a, b) {
				night.CheckRules(r)
				night.Night(r, a, b)
				tryMoves(r, a, b)
				tryRequests(r, a, b)
			}
		}
	}
	for _, s := range anyStrings {
		for _, r := range anyRules(0, 1) {
			night.Parse(r, s)
			night.Evidence(r, s, "storm")
			night.Evidence(r, "f1", s)
		}
	}
	r := seeded()
	for range 3000 {
		s := []byte(sampleString)
		for range from(r, 1, 5) {
			s[r.Intn(len(s))] = "\n 019-mf\xff"[r.Intn(9)]
		}
		night.Parse(rules(), string(s))
		night.Parse(rules(), string(s[:r.Intn(len(s))]))
	}
}

// Arguments are not modified, and results share no memory with them or with each other.
func TestMemory(t *testing.T) {
	a, want := right(), right()
	counts, _ := night.Counts(a.rules, a.moves)
	counts[0] = 7
	fees, _ := night.Fees(a.rules, a.moves)
	fees[0] = 7
	night.Spent(a.rules, a.moves, a.nights)
	night.Left(a.rules, a.moves)
	night.Respite(a.rules, a.moves, a.night)
	night.Valid(a.rules, a.moves, a.exceptions[0])
	cases, _ := night.Cases(a.rules, a.moves, nil)
	cases[0] = night.Case{}
	night.Bill(a.rules, a.moves, a.exceptions, "sky")
	night.Bill(a.rules, a.moves, a.exceptions, "nobody")
	night.Fits(a.rules, a.requests, a.granted)
	best, _, _ := night.Plan(a.rules, a.requests)
	best[0] = 7
	night.Bound(a.rules, a.requests, a.prices)
	night.Print(a.rules, a.moves)
	parsed, _, _ := night.Parse(a.rules, sampleString)
	parsed[0] = night.Move{}
	are(t, "the types", a.rules.Types, want.rules.Types)
	are(t, "the reasons", a.rules.Reasons, want.rules.Reasons)
	are(t, "the movements", a.moves, want.moves)
	are(t, "the exceptions", a.exceptions, want.exceptions)
	are(t, "the requests", a.requests, want.requests)
	are(t, "the granted requests", a.granted, want.granted)
	again, _, _ := night.Plan(a.rules, a.requests)
	are(t, "Plan again", again, []int{0, 1, 3})
	second, _ := night.Cases(a.rules, a.moves, nil)
	are(t, "Cases again", second, []night.Case{{Flight: "f3", Reason: "none", Fine: 500}})
}
