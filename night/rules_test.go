package night_test

import (
	"fmt"
	"math"
	"slices"
	"strconv"
	"strings"
	"testing"

	"flyover/api"
	"flyover/night"
)

// P7.1: the rules with each limit, and beyond it.
func TestCheckRules(t *testing.T) {
	names := func(n int) []string {
		var l []string
		for i := range n {
			l = append(l, "n"+strconv.Itoa(i))
		}
		return l
	}
	types := func(n int) []night.Type {
		var l []night.Type
		for _, s := range names(n) {
			l = append(l, night.Type{Name: s})
		}
		return l
	}
	long := strings.Repeat("a", api.MaxName)
	for i, x := range []struct {
		change func(r *night.Rules)
		e      api.Errno
	}{
		{func(r *night.Rules) {}, api.OK},
		{func(r *night.Rules) { r.Night.To = 1440 }, api.ErrSpan}, {func(r *night.Rules) { r.Night = span(-1, 360) }, api.ErrSpan}, {func(r *night.Rules) { r.Night = api.Span{} }, api.ErrSpan}, {func(r *night.Rules) { r.Night = span(math.MinInt, math.MaxInt) }, api.ErrSpan},
		{func(r *night.Rules) { r.Curfew = span(-1, 300) }, api.ErrSpan}, {func(r *night.Rules) { r.Curfew = span(30, 30) }, api.ErrSpan}, {func(r *night.Rules) { r.Curfew = span(30, 1440) }, api.ErrSpan},
		// The curfew is within the night, at its ends, too.
		{func(r *night.Rules) { r.Curfew = span(1380, 360) }, api.OK}, {func(r *night.Rules) { r.Curfew = span(1379, 360) }, api.ErrRule}, {func(r *night.Rules) { r.Curfew = span(1380, 361) }, api.ErrRule}, {func(r *night.Rules) { r.Curfew = span(300, 30) }, api.ErrRule},
		{func(r *night.Rules) { r.Curfew = span(359, 360) }, api.OK}, {func(r *night.Rules) { r.Curfew = span(360, 361) }, api.ErrRule}, {func(r *night.Rules) { r.Curfew = span(360, 1380) }, api.ErrRule}, {func(r *night.Rules) { r.Curfew = span(1400, 0) }, api.OK}, {func(r *night.Rules) { r.Curfew = span(600, 660) }, api.ErrRule},
		{func(r *night.Rules) { r.Night, r.Curfew = span(0, 360), span(0, 360) }, api.OK}, {func(r *night.Rules) { r.Night, r.Curfew = span(0, 360), span(1439, 360) }, api.ErrRule}, {func(r *night.Rules) { r.Night, r.Curfew = span(5, 4), span(5, 4) }, api.OK}, {func(r *night.Rules) { r.Night, r.Curfew = span(5, 4), span(4, 5) }, api.ErrRule}, {func(r *night.Rules) { r.Night, r.Curfew = span(5, 4), span(6, 5) }, api.ErrRule},
		{func(r *night.Rules) { r.Types = nil }, api.OK}, {func(r *night.Rules) { r.Types = types(16) }, api.OK}, {func(r *night.Rules) { r.Types = types(17) }, api.ErrMany},
		{func(r *night.Rules) { r.Types[1].Name = "" }, api.ErrName}, {func(r *night.Rules) { r.Types[1].Name = long }, api.OK}, {func(r *night.Rules) { r.Types[1].Name = long + "a" }, api.ErrName}, {func(r *night.Rules) { r.Types[1].Name = "Jet" }, api.OK}, {func(r *night.Rules) { r.Types[1].Name = "_jet" }, api.ErrName}, {func(r *night.Rules) { r.Types[1].Name = "jet" }, api.ErrTwice},
		{func(r *night.Rules) { r.Types[0].Count, r.Types[1].Count = 0, 64 }, api.OK}, {func(r *night.Rules) { r.Types[1].Count = 65 }, api.ErrRange}, {func(r *night.Rules) { r.Types[1].Count = -1 }, api.ErrRange}, {func(r *night.Rules) { r.Types[0].Fee, r.Types[1].Fee = 0, 100000 }, api.OK}, {func(r *night.Rules) { r.Types[1].Fee = 100001 }, api.ErrRange}, {func(r *night.Rules) { r.Types[1].Fee = -1 }, api.ErrRange},
		// The first type with an error decides.
		{func(r *night.Rules) { r.Types[0].Fee, r.Types[1].Name = -1, "" }, api.ErrRange}, {func(r *night.Rules) { r.Types = append(types(2), r.Types[0], r.Types[0]); r.Types[2].Count = 65 }, api.ErrRange}, {func(r *night.Rules) { r.Types = append(r.Types, r.Types[1]) }, api.ErrTwice},
		{func(r *night.Rules) { r.Quota = 0 }, api.OK}, {func(r *night.Rules) { r.Quota = 100000 }, api.OK}, {func(r *night.Rules) { r.Quota = 100001 }, api.ErrRange}, {func(r *night.Rules) { r.Quota = -1 }, api.ErrRange},
		{func(r *night.Rules) { r.Reasons = nil }, api.OK}, {func(r *night.Rules) { r.Reasons = names(8) }, api.OK}, {func(r *night.Rules) { r.Reasons = names(9) }, api.ErrMany}, {func(r *night.Rules) { r.Reasons = []string{"a", "b", "a"} }, api.ErrTwice}, {func(r *night.Rules) { r.Reasons[1] = "he lp" }, api.ErrName}, {func(r *night.Rules) { r.Reasons = []string{"a", "a", ""} }, api.ErrTwice}, {func(r *night.Rules) { r.Reasons = []string{"a", "", "a"} }, api.ErrName}, {func(r *night.Rules) { r.Reasons[0] = "jet" }, api.OK},
		{func(r *night.Rules) { r.Deadline = 0 }, api.OK}, {func(r *night.Rules) { r.Deadline = 60 }, api.OK}, {func(r *night.Rules) { r.Deadline = 61 }, api.ErrRange}, {func(r *night.Rules) { r.Deadline = -1 }, api.ErrRange},
		{func(r *night.Rules) { r.Fine = 0 }, api.OK}, {func(r *night.Rules) { r.Fine = 100000 }, api.OK}, {func(r *night.Rules) { r.Fine = 100001 }, api.ErrRange}, {func(r *night.Rules) { r.Fine = -1 }, api.ErrRange},
		{func(r *night.Rules) { r.Rate = 1 }, api.OK}, {func(r *night.Rules) { r.Rate = 60 }, api.OK}, {func(r *night.Rules) { r.Rate = 61 }, api.ErrRange}, {func(r *night.Rules) { r.Rate = 0 }, api.ErrRange}, {func(r *night.Rules) { r.Rate = math.MinInt }, api.ErrRange},
		{func(r *night.Rules) { r.Key = api.Key{1, 2, 255} }, api.OK}, {func(r *night.Rules) { *r = night.Rules{} }, api.ErrSpan},
	} {
		is(t, fmt.Sprint("CheckRules ", i), night.CheckRules(changedRules(x.change)), x.e)
	}
	inOrder(t, "CheckRules", func(a arguments) (api.Errno, bool) { return night.CheckRules(a.rules), true }, ruleFaults())
}

// P7.1: a curfew is one of the rules' just if each of its minutes is one of the night.
func TestCurfewByDefinition(t *testing.T) {
	r := seeded()
	outside := 0
	for range 3000 {
		n, c := someSpan(r), someSpan(r)
		want, minutes := api.OK, walked(n)
		for _, minute := range walked(c) {
			if !slices.Contains(minutes, minute) {
				want = api.ErrRule
				outside++
				break
			}
		}
		is(t, fmt.Sprint("CheckRules of ", n, c), night.CheckRules(changedRules(func(r *night.Rules) { r.Night, r.Curfew = n, c })), want)
	}
	is(t, fmt.Sprint("many curfews are outside: ", outside), outside > 500 && outside < 2500, true)
}
