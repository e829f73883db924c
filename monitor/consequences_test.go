package monitor_test

import (
	"fmt"
	"math/rand"
	"slices"
	"testing"

	"flyover/api"
	"flyover/monitor"
)

// P5.5: a true factor is one of those of its check, and one of those of two checks together.
func TestTrueFactors(t *testing.T) {
	r := seeded()
	for range 5000 {
		// The true factor is that of what was sent, and what came of it.
		most := []int{20, 1000, monitor.MaxSource / 3}[r.Intn(3)]
		came := from(r, 1, most)
		sent := from(r, max(came/8, 1), 3*came)
		check := func() api.Interval {
			times := from(r, 1, monitor.MaxSource/max(sent, came))
			measured := of(max(times*came-r.Intn(9), 1), min(times*came+r.Intn(9), monitor.MaxSource))
			factors, e := monitor.Calibrated(times*sent, measured)
			if e != api.OK {
				is(t, "error of Calibrated", e, api.ErrLarge)
				is(t, "a factor that is too large", 1000*times*sent > monitor.MaxFactor*measured.Low, true)
				return of(0, monitor.MaxFactor)
			}
			return factors
		}
		a, b := check(), check()
		both, e := monitor.Agreed(a, b)
		is(t, "error of Agreed", e, api.OK)
		for _, x := range []api.Interval{a, b, both} {
			is(t, fmt.Sprint("the factor of ", sent, " and ", came, " in ", x), x.Low*came <= 1000*sent && 1000*sent <= x.High*came, true)
		}
		other, _ := monitor.Agreed(b, a)
		is(t, "Agreed in the other order", other, both)
	}
}

// P5.5: a true energy is in what is corrected, and just so wide.
func TestTrueEnergies(t *testing.T) {
	r := seeded()
	for range 2000 {
		l, factors := someRecord(r, 30), of(r.Intn(2000), 0)
		factors.High = factors.Low + r.Intn(500)
		got, e := monitor.Corrected(l, factors)
		if e != api.OK {
			is(t, "error of Corrected", e, api.ErrLarge)
			is(t, "an energy that is too large", slices.Max(l)*factors.High > 1000*api.MaxEnergy, true)
			continue
		}
		is(t, "as many intervals", len(got), len(l))
		factor := from(r, factors.Low, factors.High)
		for i, n := range l {
			x := got[i]
			if n == monitor.Missing {
				is(t, "what is missing", x, of(-1, -1))
				continue
			}
			what := fmt.Sprint(n, " by ", factors, ": ", x)
			is(t, "the true energy of "+what, 1000*x.Low <= n*factor && n*factor <= 1000*x.High, true)
			is(t, "the ends of "+what, 1000*(x.Low+1) > n*factors.Low && 1000*(x.High-1) < n*factors.High, true)
		}
	}
}

// P5.5, P6: each loud second is in one event at most, and with a least number of 1 in one; each event has its energy.
func TestLoudSecondsInEvents(t *testing.T) {
	r := seeded()
	left := 0
	for range 3000 {
		l, x := someRecord(r, 60), rule(from(r, 1, 4), r.Intn(6), from(r, 1, 4))
		got, e := monitor.Events(l, x)
		is(t, "error of Events", e, api.OK)
		what := fmt.Sprint(l, x, got)
		in := make([]int, len(l))
		for _, y := range got {
			sum, peak, missing, e := monitor.Totals(l[y.Span.From:y.Span.To])
			is(t, "error of Totals", e, api.OK)
			is(t, "the energy of "+what, [3]int{y.Energy, y.Peak, y.Missing}, [3]int{sum, peak, missing})
			is(t, "the peak of "+what, l[y.At] == peak && !slices.Contains(l[y.Span.From:y.At], peak), true)
			is(t, "the ends of "+what, l[y.Span.From] >= x.Threshold && l[y.Span.To-1] >= x.Threshold, true)
			for i := y.Span.From; i < y.Span.To; i++ {
				in[i]++
			}
		}
		all, _ := monitor.Events(l, rule(x.Threshold, x.Gap, 1))
		covered := func(i int) bool {
			return slices.ContainsFunc(all, func(y monitor.Event) bool { return y.Span.From <= i && i < y.Span.To })
		}
		for i, n := range l {
			is(t, fmt.Sprint("the events of the second ", i, " of "+what), in[i] <= 1, true)
			if n >= x.Threshold {
				is(t, fmt.Sprint("the second ", i, " with a least number of 1 of "+what), covered(i), true)
				left += 1 - in[i]
			}
		}
		for _, y := range got {
			is(t, "an event with a least number of 1 of "+what, slices.Contains(all, y), true)
		}
	}
	is(t, fmt.Sprint("many loud seconds are in no event: ", left), left > 1000, true)
}

// P5.5: a window that is moved around by some samples has them as its lag, if it has no other.
func TestMovedWindows(t *testing.T) {
	r := seeded()
	moved := 0
	for range 3000 {
		n := from(r, 2, 16)
		a, b := samples(n, 0), samples(n, 0)
		for i := range a {
			a[i] = float32(from(r, -50, 50)) / 16
		}
		by := from(r, -n, n)
		for i := range a {
			b[(i+by+n)%n] = a[i]
		}
		lag, two, e := monitor.Lag(a, b)
		is(t, "error of Lag", e, api.OK)
		same, _ := monitor.Correlations(a, a)
		is(t, fmt.Sprint("the greatest correlation of ", a, b), two[0], same[0])
		is(t, "a window that is not moved", slices.Max(same), same[0])
		if two[0] == two[1] {
			continue
		}
		moved++
		is(t, fmt.Sprint("the lag of ", a, b), (lag-by+2*n)%n, 0)
		is(t, fmt.Sprint("the size of the lag ", lag, " of ", n), 2*max(lag, -lag) <= n, true)
	}
	is(t, fmt.Sprint("many are moved: ", moved), moved > 2000, true)
}

// tightened lowers the prices of a proof, one after the other, as far as they prove.
func tightened(l []monitor.Event, p []monitor.Pass, slack int, prices [2][]int) [2][]int {
	for i := range prices {
		for j := range prices[i] {
			for _, step := range []int{100, 10, 1} {
				for e := api.OK; e == api.OK; _, e = monitor.Bound(l, p, slack, prices) {
					prices[i][j] -= step
				}
				prices[i][j] += step
			}
		}
	}
	return prices
}

// someMatch returns a match, whose events have been given passes in any order.
func someMatch(r *rand.Rand, l []monitor.Event, p []monitor.Pass, slack int) []int {
	match := alike(len(l), monitor.None)
	for _, i := range r.Perm(len(l)) {
		match[i] = from(r, -1, len(p)-1)
		if _, e := monitor.CheckMatch(l, p, slack, match); e != api.OK {
			match[i] = monitor.None
		}
	}
	return match
}

// P5.5, P6: events and passes are matched at most once each, an unknown event never, and no match has a greater value than the best one, nor than any bound.
func TestNoMatchIsGreater(t *testing.T) {
	r := seeded()
	others, tight := 0, 0
	for range 1000 {
		l, p, slack := someEvents(r, 8), somePasses(r, 8), []int{0, 5, 300}[r.Intn(3)]
		what := fmt.Sprint(l, p, slack)
		best, value, e := monitor.Match(l, p, slack)
		is(t, "error of Match", e, api.OK)
		again, e := monitor.CheckMatch(l, p, slack, best)
		is(t, "error of CheckMatch of the best match of "+what, e, api.OK)
		is(t, "the value of the best match of "+what, again, value)
		second, e := monitor.Second(l, p, slack)
		is(t, "a second match of "+what, e == api.OK, value > 0)
		is(t, "the second value of "+what, second <= value, true)
		unknown, _ := monitor.Unknown(l, p, slack)
		for i, pass := range best {
			is(t, "passes that are given twice of "+what, pass != monitor.None && slices.Contains(best[:i], pass), false)
			is(t, "an unknown event of "+what, slices.Contains(unknown, i) && pass != monitor.None, false)
		}
		for range 20 {
			match := someMatch(r, l, p, slack)
			n, e := monitor.CheckMatch(l, p, slack, match)
			is(t, "error of CheckMatch of "+what, e, api.OK)
			is(t, "a match that is greater of "+what, n <= value, true)
			if !slices.Equal(match, best) {
				is(t, "another match than the second one of "+what, n <= second, true)
				others++
			}
		}
		prices := tightened(l, p, slack, [2][]int{alike(len(l), 1000), alike(len(p), 1000)})
		bound, e := monitor.Bound(l, p, slack, prices)
		is(t, "error of Bound", e, api.OK)
		is(t, fmt.Sprint("the bound ", bound, " of "+what), bound >= value, true)
		if bound == value && value > 0 {
			tight++
		}
	}
	is(t, fmt.Sprint("many other matches: ", others), others > 1000, true)
	is(t, fmt.Sprint("many bounds are as great as the best match: ", tight), tight > 50, true)
}

// P5.5, P6: a pass more never lowers the value of the best match, and a slack more neither.
func TestMorePasses(t *testing.T) {
	r := seeded()
	for range 500 {
		l, p, slack := someEvents(r, 8), somePasses(r, 8), r.Intn(20)
		before := 0
		for i := range len(p) + 1 {
			_, value, e := monitor.Match(l, p[:i], slack)
			is(t, "error of Match", e, api.OK)
			is(t, fmt.Sprint("the value with a pass more of ", l, p, slack), value >= before, true)
			before = value
		}
		_, value, _ := monitor.Match(l, p, slack+1)
		is(t, fmt.Sprint("the value with more slack of ", l, p, slack), value >= before, true)
	}
}

// P5.5: records are parsed as they were printed, and strings are printed as they were parsed.
func TestPrintAndParse(t *testing.T) {
	r := seeded()
	printed := 0
	for range 2000 {
		l := someRecord(r, from(r, 1, 600))
		s, e := monitor.Print(l)
		if e != api.OK {
			is(t, "error of Print", e, api.ErrLong)
			continue
		}
		printed++
		is(t, "a string that is too long", len(s) <= api.MaxText, true)
		back, at, e := monitor.Parse(s)
		are(t, "Parse of Print", back, l)
		is(t, "index", at, 0)
		is(t, "error of Parse", e, api.OK)
		b := []byte(s)
		b[r.Intn(len(b))] = "\n 0129-ms\xff"[r.Intn(10)]
		changed, _, e := monitor.Parse(string(b))
		if e != api.OK {
			are(t, "record beside the error", changed, nil)
			continue
		}
		again, e := monitor.Print(changed)
		is(t, "error of Print of Parse", e, api.OK)
		is(t, "Print of Parse", again, string(b))
	}
	is(t, fmt.Sprint("many are printed: ", printed), printed > 1000, true)
}
