package night_test

import (
	"fmt"
	"slices"
	"strings"
	"testing"

	"flyover/api"
	"flyover/night"
	"flyover/sound"
)

// P7.2: exceptions with each limit, and beyond it.
func TestCheckExceptions(t *testing.T) {
	var all []night.Exception
	for _, m := range many(256) {
		all = append(all, exception(m.Flight, "storm", 4, api.Key{}))
	}
	long := strings.Repeat("a", api.MaxName)
	for i, x := range []struct {
		l []night.Move
		x []night.Exception
		e api.Errno
	}{
		{moves(), nil, api.OK}, {nil, nil, api.OK}, {many(256), all, api.OK}, {many(256), append(all, all[0]), api.ErrMany}, {moves(), make([]night.Exception, 256), api.ErrUnknown},
		{moves(), []night.Exception{exception("f4", "fog", 0, api.Key{}), exception("f1", long, api.MaxDay, api.Key{1})}, api.OK}, {moves(), []night.Exception{exception("f4", long+"a", 4, api.Key{})}, api.ErrName}, {moves(), []night.Exception{exception("f4", "", 4, api.Key{})}, api.ErrName}, {moves(), []night.Exception{exception("f4", "a b", 4, api.Key{})}, api.ErrName},
		{moves(), []night.Exception{exception("f5", "storm", 4, api.Key{})}, api.ErrUnknown}, {moves(), []night.Exception{exception("", "storm", 4, api.Key{})}, api.ErrUnknown}, {moves(), []night.Exception{exception("F1", "storm", 4, api.Key{})}, api.ErrUnknown}, {nil, []night.Exception{exception("f1", "storm", 4, api.Key{})}, api.ErrUnknown},
		{moves(), []night.Exception{exception("f1", "storm", -1, api.Key{})}, api.ErrRange}, {moves(), []night.Exception{exception("f1", "storm", api.MaxDay+1, api.Key{})}, api.ErrRange},
		// The first exception with an error decides.
		{moves(), []night.Exception{exception("f1", "storm", -1, api.Key{}), exception("f9", "", -1, api.Key{})}, api.ErrRange}, {moves(), []night.Exception{exception("f1", "storm", 4, api.Key{}), exception("f2", "storm", 4, api.Key{}), exception("f1", "help", 5, api.Key{})}, api.ErrTwice},
	} {
		is(t, fmt.Sprint("CheckExceptions ", i), night.CheckExceptions(rules(), x.l, x.x), x.e)
	}
	inOrder(t, "CheckExceptions", func(a arguments) (api.Errno, bool) {
		return night.CheckExceptions(a.rules, a.moves, a.exceptions), true
	}, ruleFaults(), moveFaults(), exceptionFaults())
}

// P7.2: evidence is the seal of the flight, a space and the reason.
func TestEvidence(t *testing.T) {
	key := api.Key{1, 2, 3, 4, 5, 6, 7, 255}
	keyed := changedRules(func(r *night.Rules) { r.Key = key })
	long := strings.Repeat("a", api.MaxName)
	for _, x := range [][2]string{{"f3", "storm"}, {"f", "help"}, {"unknown", "fog"}, {long, long}} {
		for _, r := range []night.Rules{rules(), keyed} {
			want, _ := sound.Seal(r.Key, []byte(x[0]+" "+x[1]))
			got, e := night.Evidence(r, x[0], x[1])
			is(t, fmt.Sprint("Evidence of ", x), got, want)
			is(t, "error of Evidence", e, api.OK)
		}
	}
	// The first byte by the key of zeros: 3 times the last one, and each byte, and 2, for each byte in turn; modulo 256.
	var first byte
	for _, b := range []byte("f3 storm") {
		first = 3*first + b + 2
	}
	is(t, "the first byte", evidence(rules(), "f3", "storm")[0], first)
	for i, x := range [][2]string{{"", "storm"}, {"f3", ""}, {"f 3", "storm"}, {"f3", "st orm"}, {long + "a", "storm"}, {"f3", long + "a"}, {"3", "storm"}} {
		got, e := night.Evidence(keyed, x[0], x[1])
		is(t, fmt.Sprint("error of Evidence ", i), e, api.ErrName)
		is(t, "evidence beside the error", got, api.Key{})
	}
	inOrder(t, "Evidence", func(a arguments) (api.Errno, bool) {
		got, e := night.Evidence(a.rules, a.flight, a.reason)
		return e, got == api.Key{}
	}, ruleFaults(), []fault{
		{func(a *arguments) { a.flight = "7" }, api.ErrName},
		{func(a *arguments) { a.reason = "7" }, api.ErrName},
	})
}

// P7.2: what is wrong with exceptions, the cases, and the bills.
func TestValidCasesBill(t *testing.T) {
	right := evidence(rules(), "f3", "storm")
	changed := right
	changed[7]++
	none := rules()
	none.Deadline, none.Fine = 0, 0
	for i, x := range []struct {
		r    night.Rules
		x    night.Exception
		word string
		// The reason of the case of f3, or the empty string if it is none.
		of   string
		bill int
	}{
		{rules(), exception("f3", "storm", 9, right), "", "", 60}, {rules(), exception("f3", "storm", 4, right), "", "", 60}, {rules(), exception("f3", "help", 5, evidence(rules(), "f3", "help")), "", "", 60},
		{rules(), exception("f3", "storm", 3, right), "early", "early", 560}, {rules(), exception("f3", "storm", 10, right), "late", "late", 560}, {rules(), exception("f3", "storm", 0, right), "early", "early", 560}, {rules(), exception("f3", "storm", api.MaxDay, right), "late", "late", 560},
		{rules(), exception("f3", "fog", 9, evidence(rules(), "f3", "fog")), "reason", "reason", 560}, {rules(), exception("f3", "help", 9, right), "evidence", "evidence", 560}, {rules(), exception("f3", "storm", 9, changed), "evidence", "evidence", 560}, {rules(), exception("f3", "storm", 9, evidence(rules(), "f1", "storm")), "evidence", "evidence", 560},
		// The first word that applies.
		{rules(), exception("f3", "fog", 3, changed), "reason", "reason", 560}, {rules(), exception("f3", "Storm", 10, changed), "reason", "reason", 560}, {rules(), exception("f3", "storm", 3, changed), "early", "early", 560}, {rules(), exception("f3", "storm", 10, changed), "late", "late", 560},
		// An exception of another flight does not help, nor does it matter outside of the curfew.
		{rules(), exception("f4", "storm", 9, right), "evidence", "none", 560}, {rules(), exception("f4", "storm", 9, evidence(rules(), "f4", "storm")), "", "none", 560}, {rules(), exception("f1", "storm", 2, right), "early", "none", 560},
		{none, exception("f3", "storm", 4, right), "", "", 60}, {none, exception("f3", "storm", 5, right), "late", "late", 60}, {none, exception("f3", "storm", 3, right), "early", "early", 60},
		{changedRules(func(r *night.Rules) { r.Reasons = nil }), exception("f3", "storm", 9, right), "reason", "reason", 560}, {changedRules(func(r *night.Rules) { r.Key[0] = 1 }), exception("f3", "storm", 9, right), "evidence", "evidence", 560},
	} {
		word, e := night.Valid(x.r, moves(), x.x)
		is(t, fmt.Sprint("Valid ", i), word, x.word)
		is(t, "error of Valid", e, api.OK)
		var want []night.Case
		if x.of != "" {
			want = append(want, night.Case{Flight: "f3", Reason: x.of, Fine: x.r.Fine})
		}
		l, e := night.Cases(x.r, moves(), []night.Exception{x.x})
		are(t, fmt.Sprint("Cases ", i), l, want)
		is(t, "error of Cases", e, api.OK)
		n, e := night.Bill(x.r, moves(), []night.Exception{x.x}, "sky")
		is(t, fmt.Sprint("Bill ", i), n, x.bill)
		is(t, "error of Bill", e, api.OK)
		n, _ = night.Bill(x.r, moves(), []night.Exception{x.x}, "air")
		is(t, fmt.Sprint("Bill of the other airline ", i), n, 400)
	}
}

// P7.2: cases in the order of the movements, at the ends of the curfew, and of several airlines.
func TestSeveralCases(t *testing.T) {
	l := []night.Move{
		move("z", "sea", "jet", 4, 30), move("a", "sky", "prop", 2, 299), move("b", "sky", "prop", 2, 29), move("c", "sea", "prop", 2, 300),
		move("d", "air", "jet", 9, 60), move("e", "sea", "jet", 9, 61), move("f", "air", "jet", 9, 1380),
	}
	r := rules()
	x := []night.Exception{exception("e", "help", 9, evidence(r, "e", "help")), exception("d", "help", 8, evidence(r, "d", "help")), exception("b", "help", 8, api.Key{})}
	cases, e := night.Cases(r, l, x)
	are(t, "Cases", cases, []night.Case{{Flight: "z", Reason: "none", Fine: 500}, {Flight: "a", Reason: "none", Fine: 500}, {Flight: "d", Reason: "early", Fine: 500}})
	is(t, "error of Cases", e, api.OK)
	for _, y := range []struct {
		airline string
		n       int
	}{{"sea", 200 + 40 + 200 + 500}, {"sky", 40 + 40 + 500}, {"air", 200 + 200 + 500}, {"nobody", 0}, {"Air", 0}, {"z", 0}} {
		n, e := night.Bill(r, l, x, y.airline)
		is(t, "Bill of "+y.airline, n, y.n)
		is(t, "error of Bill of "+y.airline, e, api.OK)
	}
	// Each flight within the curfew at the highest fee and fine.
	dear := changedRules(func(r *night.Rules) { r.Types[0].Fee, r.Fine = 100000, 100000 })
	all := many(256)
	for i := range all {
		all[i].Minute = 30
	}
	n, e := night.Bill(dear, all, nil, "air")
	is(t, "the highest Bill", n, 256*300000)
	is(t, "error of Bill", e, api.OK)
}

// P7.2: the fees of movements.
func TestFees(t *testing.T) {
	for i, x := range []struct {
		r night.Rules
		l []night.Move
		f []int
	}{
		{rules(), moves(), []int{200, 200, 40, 20}}, {rules(), nil, nil}, {rules(), []night.Move{move("f", "a", "jet", 4, 360), move("g", "a", "jet", 4, 359), move("h", "a", "prop", 4, 1379), move("i", "a", "prop", 4, 1380)}, []int{100, 200, 20, 40}},
		{changedRules(func(r *night.Rules) { r.Types[0].Fee, r.Types[1].Fee = 100000, 0 }), moves(), []int{200000, 200000, 0, 0}},
	} {
		f, e := night.Fees(x.r, x.l)
		are(t, fmt.Sprint("Fees ", i), f, x.f)
		is(t, "error of Fees", e, api.OK)
	}
	inOrder(t, "Fees", func(a arguments) (api.Errno, bool) {
		f, e := night.Fees(a.rules, a.moves)
		return e, len(f) == 0
	}, ruleFaults(), moveFaults())
}

// P7.2: the errors of exceptions, one by one and in lists, and of airlines.
func TestExceptionErrors(t *testing.T) {
	inOrder(t, "Valid", func(a arguments) (api.Errno, bool) {
		// Of a list with the exception alone, nothing is there twice.
		word, e := night.Valid(a.rules, a.moves, a.exceptions[0])
		return e, word == ""
	}, ruleFaults(), moveFaults(), []fault{
		{func(a *arguments) { a.exceptions[0].Flight = "f9" }, api.ErrUnknown},
		{func(a *arguments) { a.exceptions[0].Reason = "7" }, api.ErrName},
		{func(a *arguments) { a.exceptions[0].Day = api.MaxDay + 1 }, api.ErrRange},
	})
	inOrder(t, "Cases", func(a arguments) (api.Errno, bool) {
		l, e := night.Cases(a.rules, a.moves, a.exceptions)
		return e, len(l) == 0
	}, ruleFaults(), moveFaults(), exceptionFaults())
	inOrder(t, "Bill", func(a arguments) (api.Errno, bool) {
		n, e := night.Bill(a.rules, a.moves, a.exceptions, a.airline)
		return e, n == 0
	}, ruleFaults(), moveFaults(), exceptionFaults(), []fault{
		{func(a *arguments) { a.airline = "7" }, api.ErrName},
		{func(a *arguments) { a.airline = "" }, api.ErrName},
	})
}

// faultOf says what is wrong with an exception for a movement, by the definition.
func faultOf(x night.Rules, y night.Exception, m night.Move) string {
	key, _ := sound.Seal(x.Key, []byte(m.Flight+" "+y.Reason))
	switch {
	case !slices.Contains(x.Reasons, y.Reason):
		return "reason"
	case y.Day < m.Day:
		return "early"
	case y.Day-m.Day > x.Deadline:
		return "late"
	case y.Evidence != key:
		return "evidence"
	}
	return ""
}

// P7.2: exceptions, cases, fees and bills by the definition.
func TestExceptionsByDefinition(t *testing.T) {
	r := seeded()
	words := map[string]int{}
	for range 3000 {
		x := someRules(r)
		l := someMoves(r, x, 12)
		all := someExceptions(r, x, l)
		what := fmt.Sprint(x, l, all)
		var cases []night.Case
		bills := map[string]int{}
		fees, e := night.Fees(x, l)
		is(t, "error of Fees of "+what, e, api.OK)
		for i, m := range l {
			fee := typeOf(x, m.Type).Fee
			if _, in := nightOf(x, m); in {
				fee += fee
			}
			is(t, fmt.Sprint("the fee of ", m, " of "+what), fees[i], fee)
			bills[m.Airline] += fee
			reason := "none"
			for _, y := range all {
				if y.Flight == m.Flight {
					reason = faultOf(x, y, m)
					word, e := night.Valid(x, l, y)
					is(t, fmt.Sprint("Valid of ", y, " of "+what), word, reason)
					is(t, "error of Valid", e, api.OK)
				}
			}
			if slices.Contains(walked(x.Curfew), m.Minute) {
				words[reason]++
				if reason != "" {
					cases = append(cases, night.Case{Flight: m.Flight, Reason: reason, Fine: x.Fine})
					bills[m.Airline] += x.Fine
				}
			}
		}
		got, e := night.Cases(x, l, all)
		are(t, "Cases of "+what, got, cases)
		is(t, "error of Cases of "+what, e, api.OK)
		for _, airline := range []string{"air", "sky", "sea", "none"} {
			n, e := night.Bill(x, l, all, airline)
			is(t, "Bill of "+airline+" of "+what, n, bills[airline])
			is(t, "error of Bill", e, api.OK)
		}
	}
	for _, word := range []string{"", "none", "reason", "early", "late", "evidence"} {
		is(t, fmt.Sprint("many exceptions with the word ", word, ": ", words), words[word] > 50, true)
	}
}
