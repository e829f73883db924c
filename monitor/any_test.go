package monitor_test

import (
	"math"
	"slices"
	"strings"
	"testing"

	"flyover/api"
	"flyover/monitor"
)

var (
	anyInts    = []int{math.MinInt, -2, -1, 0, 1, 2, 7, 8, 16, 300, 1000, 1024, 1025, 100000, 100001, monitor.MaxSource, api.MaxEnergy, api.MaxEnergy + 1, 1 << 62, math.MaxInt}
	anyFloats  = []float32{float32(math.NaN()), float32(math.Inf(1)), float32(math.Inf(-1)), 0, 0.0625, -1024, 1024, 1025, 0.01, math.MaxFloat32, math.SmallestNonzeroFloat32}
	anyStrings = []string{"", "\n", " ", "\x00", "\xff\n", "record", "record \n", "record 1\n", "missing\n", sampleString + "second", strings.Repeat(" ", 4096), strings.Repeat("record 1\n", 450), "record 1\nsecond " + strings.Repeat("9", 1<<20)}
)

// tryInts calls all functions with arguments of which some have two integers.
func tryInts(a, b int) {
	for _, r := range [][]int{nil, {a, b}, sample(), {a, -1, b}, alike(1024, a), alike(100000, b)} {
		monitor.CheckRecord(r)
		monitor.Corrected(r, of(a, b))
		monitor.Events(r, rule(a, b, 1))
		monitor.Events(r, rule(1, a, b))
		monitor.Background(r, a)
		monitor.Totals(r)
		monitor.Print(r)
	}
	monitor.Calibrated(a, of(b, b))
	monitor.Calibrated(b, of(1, a))
	monitor.Agreed(of(a, b), of(b, a))
	monitor.Bearing(a, b)
	x := monitor.Event{Span: span(a, b), Energy: a, Peak: b, At: a, Missing: b}
	y := monitor.Event{Span: span(0, 100000), Energy: b, Peak: a, At: b, Missing: a}
	p := monitor.Pass{Name: "a", Span: span(a, b), Energy: of(b, a)}
	q := monitor.Pass{Name: "b", Span: span(0, b), Energy: of(a, b)}
	for _, l := range [][]monitor.Event{nil, events(), {x}, {y}, {x, y}, slices.Repeat(events(), 1000), changedEvents(func(e *monitor.Event) { e.Energy = a; e.Span.To = b })} {
		monitor.CheckEvents(l)
		for _, m := range [][]monitor.Pass{nil, passes(), {p}, {q}, {p, q}, slices.Repeat(passes(), 1000)} {
			monitor.CheckPasses(m)
			monitor.Unknown(l, m, a)
			monitor.Match(l, m, b)
			monitor.Second(l, m, a)
			for _, n := range [][]int{nil, {a}, {a, b}, {b, a, b}, alike(1000, a)} {
				monitor.CheckMatch(l, m, 5, n)
				monitor.Bound(l, m, 5, [2][]int{n, {b, a}})
				monitor.Bound(l, m, 5, [2][]int{{a, b}, n})
			}
		}
	}
	for _, m := range []monitor.Pass{{}, p, q, passes()[0]} {
		monitor.Reasons(x, m, b)
		monitor.Value(y, m, a)
		monitor.Reasons(events()[0], m, a)
		monitor.Value(events()[1], m, b)
	}
}

// P1: each function terminates and does not panic, for all arguments.
func TestAnyArguments(t *testing.T) {
	for _, a := range anyInts {
		for _, b := range anyInts {
			tryInts(a, b)
		}
	}
	for _, x := range anyFloats {
		for _, y := range anyFloats {
			for _, a := range [][]float32{nil, {x}, {x, y}, {y, x, x}, samples(17, x), samples(100000, y)} {
				monitor.Lag(a, wave)
				monitor.Lag(wave, a)
				monitor.Correlations(a, []float32{y, y, x})
			}
		}
	}
	for _, s := range anyStrings {
		monitor.Parse(s)
	}
	r := seeded()
	for range 3000 {
		s := []byte(sampleString)
		for range from(r, 1, 5) {
			s[r.Intn(len(s))] = "\n 019-mr\xff"[r.Intn(9)]
		}
		monitor.Parse(string(s))
		monitor.Parse(string(s[:r.Intn(len(s))]))
	}
}

// Arguments are not modified, and results share no memory with them.
func TestMemory(t *testing.T) {
	r, windows, l, p := sample(), [2][]float32{slices.Clone(wave), {0, 1, 2, 0}}, events(), passes()
	match, prices := []int{0, 1}, [2][]int{{998, 0}, {0, 995}}
	corrected, _ := monitor.Corrected(r, of(1000, 1000))
	corrected[0] = of(7, 7)
	found, _ := monitor.Events(r, rule(50, 1, 1))
	found[0].Peak = 7
	monitor.Background(r, 50)
	monitor.Totals(r)
	monitor.Print(r)
	all, _ := monitor.Correlations(windows[0], windows[1])
	all[0] = 7
	monitor.Lag(windows[0], windows[1])
	given, _, _ := monitor.Match(l, p, 5)
	given[0] = 7
	unknown, _ := monitor.Unknown(l, p[:1], 1)
	unknown[0] = 7
	reasons, _ := monitor.Reasons(l[0], p[0], 1)
	reasons[0] = "x"
	monitor.Second(l, p, 5)
	monitor.CheckMatch(l, p, 5, match)
	monitor.Bound(l, p, 5, prices)
	are(t, "the record", r, sample())
	are(t, "the first window", windows[0], wave)
	are(t, "the second window", windows[1], []float32{0, 1, 2, 0})
	are(t, "the events", l, events())
	are(t, "the passes", p, passes())
	are(t, "the match", match, []int{0, 1})
	are(t, "the prices", slices.Concat(prices[0], prices[1]), []int{998, 0, 0, 995})
	again, _, _ := monitor.Match(l, p, 5)
	are(t, "Match again", again, []int{0, 1})
	words, _ := monitor.Reasons(l[0], p[0], 1)
	are(t, "Reasons again", words, []string{"time"})
}
