package night_test

import (
	"fmt"
	"math/rand"
	"slices"
	"testing"

	"flyover/api"
	"flyover/night"
)

// P7.5, P8: what is spent in two spans of nights that follow one another is the sum of both, and in all nights the quota less what is left; movements in another order spend the same.
func TestSpentInParts(t *testing.T) {
	r := seeded()
	parted := 0
	for range 2000 {
		x := someRules(r)
		l := someMoves(r, x, 20)
		what := fmt.Sprint(x, l)
		spent := func(l []night.Move, from, to int) int {
			n, e := night.Spent(x, l, span(from, to))
			is(t, "error of Spent of "+what, e, api.OK)
			return n
		}
		day := 1
		if len(l) > 0 {
			day = l[0].Day
		}
		a := max(0, day+from(r, -3, 1))
		b := from(r, a, a+3)
		c := from(r, b, b+3)
		is(t, fmt.Sprint("Spent in ", a, b, c, " of "+what), spent(l, a, b)+spent(l, b, c), spent(l, a, c))
		if spent(l, a, b) > 0 && spent(l, b, c) > 0 {
			parted++
		}
		all := spent(l, 0, api.MaxDay+1)
		left, e := night.Left(x, l)
		is(t, "error of Left of "+what, e, api.OK)
		is(t, "Spent in all nights of "+what, all, x.Quota-left)
		sum := 0
		counts, _ := night.Counts(x, l)
		for _, n := range counts {
			sum += n
		}
		is(t, "the sum of Counts of "+what, sum, all)
		slices.Reverse(l)
		is(t, "Spent in the other order of "+what, spent(l, a, c), spent(l, a, b)+spent(l, b, c))
	}
	is(t, fmt.Sprint("many are parted: ", parted), parted > 200, true)
}

// P7.5, P8: no flight within the curfew escapes: it has a valid exception, or is a case, and one alone; no other flight is one.
func TestNoFlightEscapes(t *testing.T) {
	r := seeded()
	valid, found := 0, 0
	for range 2000 {
		x := someRules(r)
		l := someMoves(r, x, 12)
		all := someExceptions(r, x, l)
		what := fmt.Sprint(x, l, all)
		cases, e := night.Cases(x, l, all)
		is(t, "error of Cases of "+what, e, api.OK)
		for _, m := range l {
			ways := 0
			for _, y := range all {
				if word, _ := night.Valid(x, l, y); y.Flight == m.Flight && word == "" {
					ways++
					valid++
				}
			}
			within, _ := night.Within(x.Curfew, m.Minute)
			if !within {
				ways = 1
			}
			for _, c := range cases {
				if c.Flight == m.Flight {
					ways++
					found++
				}
			}
			is(t, fmt.Sprint("how ", m, " ends in "+what), ways, 1)
		}
	}
	is(t, fmt.Sprint("many are valid, and many are cases: ", valid, found), valid > 500 && found > 500, true)
}

// P7.5: evidence of another flight, or for another reason, or with a changed byte, is wrong.
func TestOtherEvidence(t *testing.T) {
	r := seeded()
	for range 300 {
		x := someRules(r)
		x.Reasons = []string{"storm", "help"}
		l := []night.Move{move("f1", "air", x.Types[0].Name, 4, r.Intn(1440)), move("f2", "air", x.Types[0].Name, 4, r.Intn(1440))}
		right := evidence(x, "f1", "storm")
		valid := func(key api.Key) string {
			word, e := night.Valid(x, l, exception("f1", "storm", 4, key))
			is(t, "error of Valid", e, api.OK)
			return word
		}
		is(t, "Valid with the evidence", valid(right), "")
		is(t, "Valid with that of another flight", valid(evidence(x, "f2", "storm")), "evidence")
		is(t, "Valid with that for another reason", valid(evidence(x, "f1", "help")), "evidence")
		for i := range right {
			changed := right
			changed[i] += byte(from(r, 1, 255))
			is(t, fmt.Sprint("Valid with another byte ", i), valid(changed), "evidence")
		}
		x.Key[r.Intn(8)]++
		is(t, "Valid with another key", valid(right), "evidence")
	}
}

// P7.5: the bills of all airlines together are all fees and all fines.
func TestAllBills(t *testing.T) {
	r := seeded()
	for range 2000 {
		x := someRules(r)
		l := someMoves(r, x, 12)
		all := someExceptions(r, x, l)
		sum := 0
		for _, airline := range []string{"air", "sky", "sea"} {
			n, e := night.Bill(x, l, all, airline)
			is(t, "error of Bill", e, api.OK)
			sum += n
		}
		fees, _ := night.Fees(x, l)
		for _, n := range fees {
			sum -= n
		}
		cases, _ := night.Cases(x, l, all)
		for _, c := range cases {
			sum -= c.Fine
		}
		is(t, fmt.Sprint("the bills less fees and fines of ", x, l, all), sum, 0)
	}
}

// P7.5: in the respite there is no movement, and before and after it there is one, or the night ends.
func TestRespiteIsFree(t *testing.T) {
	r := seeded()
	inside := 0
	for range 2000 {
		x := someRules(r)
		l := someMoves(r, x, 20)
		long, _ := night.Length(x.Night)
		minutes := walked(x.Night)
		own := one(r, append(l, move("none", "none", "none", 7, 0))...).Day
		s, e := night.Respite(x, l, own)
		is(t, "error of Respite", e, api.OK)
		var of []int
		for _, m := range l {
			if n, e := night.Night(x, m.Day, m.Minute); e == api.OK && n == own {
				of = append(of, m.Minute)
			}
		}
		taken := func(offset int) bool { return slices.Contains(of, minutes[offset]) }
		what := fmt.Sprint(s, " of ", own, x, l)
		for offset := s.From; offset < s.To; offset++ {
			is(t, "a movement in the respite "+what, taken(offset), false)
		}
		if s == (api.Span{}) {
			for offset := range long {
				is(t, "a movement in each minute of the full night "+what, taken(offset), true)
			}
			continue
		}
		is(t, "the ends of the respite "+what, 0 <= s.From && s.From < s.To && s.To <= long, true)
		is(t, "before the respite "+what, s.From == 0 || taken(s.From-1), true)
		is(t, "after the respite "+what, s.To == long || taken(s.To), true)
		if s.From > 0 && s.To < long {
			inside++
		}
	}
	is(t, fmt.Sprint("many lie between movements: ", inside), inside > 100, true)
}

// tightened lowers prices as long as the bound becomes less.
func tightened(x night.Rules, l []night.Request) int {
	best, _ := night.Bound(x, l, [2]int{})
	prices := [2]int{}
	for lower := true; lower; {
		lower = false
		for _, change := range [][2]int{{1, 0}, {0, 1}, {-1, 0}, {0, -1}, {1, -1}, {-1, 1}, {1, 1}, {5, 0}, {0, 5}} {
			next := [2]int{prices[0] + change[0], prices[1] + change[1]}
			if n, e := night.Bound(x, l, next); e == api.OK && n < best {
				best, prices, lower = n, next, true
			}
		}
	}
	return best
}

// someGranted returns some of the requests that fit.
func someGranted(r *rand.Rand, x night.Rules, l []night.Request) []int {
	var granted []int
	for _, i := range r.Perm(len(l)) {
		more := append(slices.Clone(granted), i)
		slices.Sort(more)
		if word, e := night.Fits(x, l, more); e == api.OK && word == "" {
			granted = more
		}
	}
	return granted
}

// P7.5, P8: no requests that fit have a greater value than the best set, nor than any bound; and no request of the best set fits in addition.
func TestNoSetIsGreater(t *testing.T) {
	r := seeded()
	less, tight := 0, 0
	for range 800 {
		x := someRules(r)
		l := someRequests(r, x, 8)
		what := fmt.Sprint(x, l)
		best, value, e := night.Plan(x, l)
		is(t, "error of Plan", e, api.OK)
		word, e := night.Fits(x, l, best)
		is(t, "error of Fits", e, api.OK)
		is(t, "Fits of Plan of "+what, word, "")
		sum := 0
		for _, i := range best {
			sum += l[i].Value
		}
		is(t, "the value of "+what, value, sum)
		for range 5 {
			sum := 0
			for _, i := range someGranted(r, x, l) {
				sum += l[i].Value
			}
			is(t, "a value above the best one of "+what, sum > value, false)
			if sum < value {
				less++
			}
		}
		bound := tightened(x, l)
		is(t, "a bound below the best value of "+what, bound < value, false)
		if bound == value && len(best) > 0 && len(best) < len(l) {
			tight++
		}
	}
	is(t, fmt.Sprint("many sets have less: ", less), less > 200, true)
	is(t, fmt.Sprint("many bounds are as great as the best value: ", tight), tight > 20, true)
}

// P7.5: a higher quota, a higher rate, or a request more never lowers the best value.
func TestMoreRequests(t *testing.T) {
	r := seeded()
	for range 500 {
		x := someRules(r)
		l := someRequests(r, x, 8)
		before := 0
		for i := range len(l) + 1 {
			_, value, e := night.Plan(x, l[:i])
			is(t, "error of Plan", e, api.OK)
			is(t, fmt.Sprint("the value with a request more of ", x, l), value >= before, true)
			before = value
		}
		x.Quota++
		_, value, _ := night.Plan(x, l)
		is(t, fmt.Sprint("the value with a higher quota of ", x, l), value >= before, true)
		x.Rate++
		_, more, _ := night.Plan(x, l)
		is(t, fmt.Sprint("the value with a higher rate of ", x, l), more >= value, true)
	}
}

// P7.5: movements are parsed as they were printed, and strings are printed as they were parsed.
func TestPrintAndParse(t *testing.T) {
	r := seeded()
	printed := 0
	for range 2000 {
		x := someRules(r)
		l := someMoves(r, x, one(r, 5, 30, 256))
		s, e := night.Print(x, l)
		is(t, "error of Print", e, api.OK)
		back, at, e := night.Parse(x, s)
		is(t, "index", at, 0)
		if len(s) > api.MaxText {
			is(t, "error of Parse of a long string", e, api.ErrLong)
			continue
		}
		are(t, "Parse of Print", back, l)
		is(t, "error of Parse", e, api.OK)
		if len(l) == 0 {
			continue
		}
		printed++
		b := []byte(s)
		b[r.Intn(len(b))] = "\n 0129-mf\xff"[r.Intn(10)]
		changed, _, e := night.Parse(x, string(b))
		if e != api.OK {
			are(t, "movements beside the error", changed, nil)
			continue
		}
		again, e := night.Print(x, changed)
		is(t, "error of Print of Parse", e, api.OK)
		is(t, "Print of Parse", again, string(b))
	}
	is(t, fmt.Sprint("many are printed: ", printed), printed > 1000, true)
}
