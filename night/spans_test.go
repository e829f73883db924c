package night_test

import (
	"fmt"
	"math"
	"slices"
	"testing"

	"flyover/api"
	"flyover/night"
)

// P7.1: minutes and lengths of spans of the day.
func TestWithinAndLength(t *testing.T) {
	for _, x := range []struct {
		s      api.Span
		minute int
		is     bool
		long   int
	}{
		{span(1380, 360), 1380, true, 420}, {span(1380, 360), 1439, true, 420}, {span(1380, 360), 0, true, 420}, {span(1380, 360), 359, true, 420}, {span(1380, 360), 360, false, 420}, {span(1380, 360), 1379, false, 420},
		{span(30, 300), 29, false, 270}, {span(30, 300), 30, true, 270}, {span(30, 300), 299, true, 270}, {span(30, 300), 300, false, 270},
		{span(5, 4), 5, true, 1439}, {span(5, 4), 3, true, 1439}, {span(5, 4), 4, false, 1439}, {span(0, 1439), 0, true, 1439}, {span(0, 1439), 1439, false, 1439},
		{span(1439, 0), 1439, true, 1}, {span(1439, 0), 0, false, 1}, {span(0, 1), 0, true, 1}, {span(0, 1), 1, false, 1}, {span(1438, 1439), 1438, true, 1}, {span(1, 0), 0, false, 1439},
	} {
		what := fmt.Sprint(x.s, x.minute)
		within, e := night.Within(x.s, x.minute)
		is(t, "Within of "+what, within, x.is)
		is(t, "error of Within of "+what, e, api.OK)
		n, e := night.Length(x.s)
		is(t, "Length of "+what, n, x.long)
		is(t, "error of Length of "+what, e, api.OK)
	}
}

// P7.1: the errors of spans of the day and of minutes.
func TestSpanErrors(t *testing.T) {
	for _, s := range []api.Span{
		span(5, 5), span(0, 0), span(1439, 1439), span(-1, 5), span(5, -1), span(1440, 5), span(5, 1440), span(0, 1440), span(1440, 0), span(-1, -1), span(math.MinInt, math.MaxInt), span(math.MaxInt, 3),
	} {
		for _, minute := range []int{5, 1440, -1} {
			within, e := night.Within(s, minute)
			is(t, fmt.Sprint("error of Within of ", s, minute), e, api.ErrSpan)
			is(t, "Within beside the error", within, false)
		}
		n, e := night.Length(s)
		is(t, fmt.Sprint("error of Length of ", s), e, api.ErrSpan)
		is(t, "Length beside the error", n, 0)
	}
	for _, minute := range []int{-1, 1440, math.MinInt, math.MaxInt} {
		within, e := night.Within(span(1439, 1438), minute)
		is(t, fmt.Sprint("error of Within of ", minute), e, api.ErrRange)
		is(t, "Within beside the error", within, false)
	}
}

// P7.1, P7.5: a span has the minutes from From on, one after the other, and that from its To to its From has all others.
func TestSpansByDefinition(t *testing.T) {
	r := seeded()
	for range 200 {
		s := someSpan(r)
		minutes := walked(s)
		n, _ := night.Length(s)
		is(t, fmt.Sprint("Length of ", s), n, len(minutes))
		rest, _ := night.Length(span(s.To, s.From))
		is(t, fmt.Sprint("Length of the rest of ", s), rest, 1440-n)
		for minute := range 1440 {
			within, e := night.Within(s, minute)
			is(t, "error of Within", e, api.OK)
			is(t, fmt.Sprint("Within of ", s, minute), within, slices.Contains(minutes, minute))
			other, _ := night.Within(span(s.To, s.From), minute)
			is(t, fmt.Sprint("Within of the rest of ", s, minute), other, !within)
		}
	}
}
