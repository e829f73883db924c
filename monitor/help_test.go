package monitor_test

import (
	"math/rand"
	"slices"
	"testing"

	"flyover/api"
	"flyover/monitor"
)

// is compares a result with the expected one.
func is[T comparable](t *testing.T, what string, got, want T) {
	t.Helper()
	if got != want {
		t.Errorf("%s: got %v, want %v", what, got, want)
	}
}

// are compares a list with the expected one; nil and empty lists are equal.
func are[T comparable](t *testing.T, what string, got, want []T) {
	t.Helper()
	if !slices.Equal(got, want) {
		t.Errorf("%s: got %v, want %v", what, got, want)
	}
}

// seeded returns numbers that are the same in each run.
func seeded() *rand.Rand { return rand.New(rand.NewSource(1)) }

// from returns an integer from low to high.
func from(r *rand.Rand, low, high int) int { return low + r.Intn(high-low+1) }

func of(low, high int) api.Interval { return api.Interval{Low: low, High: high} }

func span(from, to int) api.Span { return api.Span{From: from, To: to} }

// alike returns n seconds with one energy.
func alike(n, energy int) []int { return slices.Repeat([]int{energy}, n) }

// sample returns the record R of the document's examples.
func sample() []int { return []int{5, 50, 60, -1, 55, 4, 4, 90} }

// badRecord is a record with an error that no other argument has, ErrEmpty.
var badRecord []int

// events returns the two events of R in the document's examples.
func events() []monitor.Event {
	return []monitor.Event{
		{Span: span(1, 5), Energy: 165, Peak: 60, At: 2, Missing: 1},
		{Span: span(7, 8), Energy: 90, Peak: 90, At: 7},
	}
}

// changedEvents returns those events with a change of the second one.
func changedEvents(f func(x *monitor.Event)) []monitor.Event {
	l := events()
	f(&l[1])
	return l
}

// badEvents are events with an error that passes, slacks and matches do not have, ErrOverlap.
func badEvents() []monitor.Event {
	return changedEvents(func(x *monitor.Event) { x.Span.From = 4 })
}

// passes returns the passes a and b of the document's examples.
func passes() []monitor.Pass {
	return []monitor.Pass{
		{Name: "a", Span: span(4, 10), Energy: of(100, 200)},
		{Name: "b", Span: span(0, 3), Energy: of(0, 170)},
	}
}

// changedPasses returns those passes with a change of the second one.
func changedPasses(f func(p *monitor.Pass)) []monitor.Pass {
	l := passes()
	f(&l[1])
	return l
}

// badPasses are passes with an error that events, slacks and matches do not have, ErrName.
func badPasses() []monitor.Pass {
	return changedPasses(func(p *monitor.Pass) { p.Name = "b c" })
}

// someRecord returns a record of up to n seconds, of which many are missing, quiet, or alike.
func someRecord(r *rand.Rand, n int) []int {
	l := make([]int, from(r, 1, n))
	most := []int{3, 20, 1000, api.MaxEnergy / n}[r.Intn(4)]
	for i := range l {
		switch r.Intn(4) {
		case 0:
			l[i] = monitor.Missing
		case 1:
			l[i] = r.Intn(2)
		default:
			l[i] = from(r, 0, most)
		}
	}
	return l
}

// someEvents returns up to n events.
func someEvents(r *rand.Rand, n int) []monitor.Event {
	var l []monitor.Event
	at := 0
	for range from(r, 0, n) {
		x := monitor.Event{Span: span(at+r.Intn(4), 0), Energy: r.Intn(30)}
		x.Span.To = x.Span.From + from(r, 1, 5)
		x.Peak, x.At, x.Missing = from(r, 0, x.Energy), from(r, x.Span.From, x.Span.To-1), r.Intn(x.Span.To-x.Span.From)
		l = append(l, x)
		at = x.Span.To
	}
	return l
}

// somePasses returns up to n passes; many have the same times and energies.
func somePasses(r *rand.Rand, n int) []monitor.Pass {
	var l []monitor.Pass
	for i := range from(r, 0, n) {
		p := monitor.Pass{Name: string(rune('a' + i)), Span: span(r.Intn(30), 0), Energy: of(r.Intn(10), 0)}
		p.Span.To, p.Energy.High = p.Span.From+from(r, 1, 9), p.Energy.Low+r.Intn(25)
		if i > 0 && r.Intn(3) == 0 {
			p.Span, p.Energy = l[i-1].Span, l[i-1].Energy
		}
		l = append(l, p)
	}
	return l
}

// worth returns the value of a pass for an event by the definition, second by second, and whether it explains it.
func worth(x monitor.Event, p monitor.Pass, slack int) (int, bool) {
	least := monitor.MaxTime
	for second := p.Span.From; second < p.Span.To; second++ {
		least = min(least, max(second-x.At, x.At-second))
	}
	for e := p.Energy.Low; e <= p.Energy.High; e++ {
		if e == x.Energy && least <= slack {
			return 1000 - least, true
		}
	}
	return 0, false
}
