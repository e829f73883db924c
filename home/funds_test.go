package home_test

import (
	"fmt"
	"math"
	"math/rand"
	"slices"
	"strconv"
	"testing"

	"flyover/api"
	"flyover/home"
)

// P8.3: balances of a fund, and the errors of its entries.
func TestBalance(t *testing.T) {
	var many []home.Entry
	for i := range home.MaxEntries {
		many = append(many, in(home.MaxAmount))
		if i%2 == 1 {
			many[i] = out("h"+strconv.Itoa(i), home.MaxAmount-1)
		}
	}
	full := slices.Repeat([]home.Entry{in(home.MaxAmount)}, 64)
	for i, x := range []struct {
		l       []home.Entry
		balance int
		e       api.Errno
	}{
		{nil, 0, api.OK}, {[]home.Entry{in(500), out("h", 240)}, 260, api.OK}, {[]home.Entry{in(500), out("h", 500)}, 0, api.OK}, {[]home.Entry{in(500), out("h", 500), in(7)}, 7, api.OK}, {[]home.Entry{in(1), in(1), in(1)}, 3, api.OK}, {[]home.Entry{in(500), out("h", 240), in(40), out("g", 300)}, 0, api.OK}, {many, 32, api.OK}, {full, 6400000000, api.OK},
		{append(many, in(1)), 0, api.ErrMany}, {make([]home.Entry, 65), 0, api.ErrMany}, {make([]home.Entry, 64), 0, api.ErrRange},
		{[]home.Entry{in(0)}, 0, api.ErrRange}, {[]home.Entry{in(-1)}, 0, api.ErrRange}, {[]home.Entry{in(100000001)}, 0, api.ErrRange}, {[]home.Entry{in(5), out("h", 0)}, 0, api.ErrRange}, {[]home.Entry{in(5), out("h", -5)}, 0, api.ErrRange}, {[]home.Entry{in(5), out("h", math.MinInt)}, 0, api.ErrRange}, {full[:1:1], 100000000, api.OK},
		{[]home.Entry{{In: true, Home: "h", Amount: 1}}, 0, api.ErrForm}, {[]home.Entry{{In: true, Home: "7", Amount: 1}}, 0, api.ErrForm}, {[]home.Entry{{In: true, Home: " ", Amount: 1}}, 0, api.ErrForm},
		{[]home.Entry{in(5), out("", 1)}, 0, api.ErrName}, {[]home.Entry{in(5), out("7", 1)}, 0, api.ErrName}, {[]home.Entry{in(5), out("h", 1), out("h ", 1)}, 0, api.ErrName},
		{[]home.Entry{in(500), out("h", 240), out("h", 240)}, 0, api.ErrTwice}, {[]home.Entry{in(500), out("h", 1), in(1), out("g", 1), out("h", 1)}, 0, api.ErrTwice}, {[]home.Entry{in(500), out("h", 1), out("H", 1)}, 498, api.OK},
		{[]home.Entry{in(500), out("h", 600)}, 0, api.ErrOver}, {[]home.Entry{in(500), out("h", 501)}, 0, api.ErrOver}, {[]home.Entry{out("h", 1)}, 0, api.ErrOver}, {[]home.Entry{out("h", 1), in(1)}, 0, api.ErrOver}, {[]home.Entry{in(500), out("h", 240), out("g", 261), in(500)}, 0, api.ErrOver},
		// The first entry with an error decides, and of its errors the first one.
		{[]home.Entry{out("h", 1), in(0)}, 0, api.ErrOver}, {[]home.Entry{{In: true, Home: "h"}}, 0, api.ErrRange}, {[]home.Entry{out("", 0)}, 0, api.ErrRange}, {[]home.Entry{out("", 1)}, 0, api.ErrName}, {[]home.Entry{in(5), out("h", 5), out("h", 1)}, 0, api.ErrTwice}, {[]home.Entry{in(5), out("h", 1), out("h", 0)}, 0, api.ErrRange},
	} {
		balance, e := home.Balance(x.l)
		is(t, fmt.Sprint("Balance ", i), balance, x.balance)
		is(t, fmt.Sprint("error of Balance ", i), e, x.e)
	}
}

// someEntries returns up to n entries; with one in ten of them something may be wrong.
func someEntries(r *rand.Rand, n int) []home.Entry {
	var l []home.Entry
	for i := range r.Intn(n + 1) {
		x := out("h"+strconv.Itoa(one(r, i, i, i, r.Intn(n))), from(r, 1, 20))
		if r.Intn(2) == 0 {
			x = in(from(r, 1, 100))
		}
		if r.Intn(10) == 0 {
			x.Home, x.Amount = one(r, x.Home, "h0", "", "0"), one(r, x.Amount, 0, 1000)
		}
		l = append(l, x)
	}
	return l
}

// balanceOf returns the balance after entries, or the first error, by the definition.
func balanceOf(l []home.Entry) (int, api.Errno) {
	balance := 0
	for i, x := range l {
		balance += map[bool]int{true: x.Amount, false: -x.Amount}[x.In]
		paid := slices.ContainsFunc(l[:i], func(y home.Entry) bool { return !y.In && y.Home == x.Home })
		switch {
		case x.Amount < 1 || x.Amount > 100000000:
			return 0, api.ErrRange
		case x.In && x.Home != "":
			return 0, api.ErrForm
		case !x.In && (x.Home == "" || x.Home[0] != 'h'):
			return 0, api.ErrName
		case !x.In && paid:
			return 0, api.ErrTwice
		case balance < 0:
			return 0, api.ErrOver
		}
	}
	return balance, api.OK
}

// P8.3: balances by the definition.
func TestBalanceByDefinition(t *testing.T) {
	r := seeded()
	kinds := map[api.Errno]int{}
	for range 5000 {
		l := someEntries(r, 12)
		want, wrong := balanceOf(l)
		balance, e := home.Balance(l)
		is(t, fmt.Sprint("Balance of ", l), balance, want)
		is(t, fmt.Sprint("error of Balance of ", l), e, wrong)
		kinds[e]++
	}
	for _, e := range []api.Errno{api.OK, api.ErrRange, api.ErrForm, api.ErrName, api.ErrTwice, api.ErrOver} {
		is(t, fmt.Sprint("many of all: ", kinds), kinds[e] > 50, true)
	}
}
