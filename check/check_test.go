package check_test

import (
	"math"
	"strconv"
	"testing"

	"flyover/api"
	"flyover/check"
)

// The first error decides, and limits are included.
func TestChecks(t *testing.T) {
	even := func(n int) api.Errno {
		if n%2 != 0 {
			return api.Errno(n)
		}
		return api.OK
	}
	for i, x := range []struct{ got, want api.Errno }{
		{check.First(), api.OK}, {check.First(api.OK, api.OK), api.OK}, {check.First(api.OK, api.ErrZero, api.ErrForm), api.ErrZero},
		{check.Each(nil, even), api.OK}, {check.Each([]int{2, 4}, even), api.OK}, {check.Each([]int{2, 5, 3}, even), api.Errno(5)},
		{check.That(true, api.ErrForm), api.OK}, {check.That(false, api.ErrForm), api.ErrForm},
		{check.Distinct(nil, even, strconv.Itoa), api.OK}, {check.Distinct([]int{2, 4}, even, strconv.Itoa), api.OK},
		{check.Distinct([]int{2, 4, 2, 5}, even, strconv.Itoa), api.ErrTwice}, {check.Distinct([]int{2, 4, 5, 2}, even, strconv.Itoa), api.Errno(5)},
		{check.Distinct([]int{5, 5}, even, strconv.Itoa), api.Errno(5)},
		{check.AtMost([]int{1, 2}, 2), api.OK}, {check.AtMost([]int{1, 2, 3}, 2), api.ErrMany},
		{check.Count([]int{}, 2), api.ErrEmpty}, {check.Count([]int{1}, 2), api.OK}, {check.Count([]int{1, 2}, 2), api.OK}, {check.Count([]int{1, 2, 3}, 2), api.ErrMany},
		{check.Within(1, 1, 3), api.OK}, {check.Within(3, 1, 3), api.OK}, {check.Within(0, 1, 3), api.ErrRange},
		{check.Within(4, 1, 3), api.ErrRange}, {check.Within(math.MinInt, 1, 3), api.ErrRange},
		{check.Index([]int{7, 7}, 0), api.OK}, {check.Index([]int{7, 7}, 1), api.OK}, {check.Index([]int{7, 7}, 2), api.ErrUnknown}, {check.Index([]int{7, 7}, -1), api.ErrUnknown},
		{check.Index([]int{}, 0), api.ErrUnknown}, {check.Index([]int{7}, math.MinInt), api.ErrUnknown}, {check.Index([]int{7}, math.MaxInt), api.ErrUnknown},
		{check.Span(api.Span{From: 0, To: 3}, 3), api.OK}, {check.Span(api.Span{From: 2, To: 3}, 3), api.OK}, {check.Span(api.Span{From: 2, To: 2}, 3), api.ErrSpan},
		{check.Span(api.Span{From: 2, To: 1}, 3), api.ErrSpan}, {check.Span(api.Span{From: -1, To: 1}, 3), api.ErrSpan}, {check.Span(api.Span{From: 0, To: 4}, 3), api.ErrSpan},
		{check.Span(api.Span{From: math.MinInt, To: math.MaxInt}, 3), api.ErrSpan}, {check.Span(api.Span{From: math.MaxInt, To: math.MinInt}, 3), api.ErrSpan},
		{check.Interval(api.Interval{Low: 2, High: 4}, even), api.OK}, {check.Interval(api.Interval{Low: 2, High: 2}, even), api.OK},
		{check.Interval(api.Interval{Low: 5, High: 3}, even), api.Errno(5)}, {check.Interval(api.Interval{Low: 4, High: 3}, even), api.Errno(3)},
		{check.Interval(api.Interval{Low: 4, High: 2}, even), api.ErrOrder},
	} {
		if x.got != x.want {
			t.Errorf("check %d: got %d, want %d", i, x.got, x.want)
		}
	}
}

// A name is there once, whatever comes between.
func TestOnce(t *testing.T) {
	once, other := check.Once(), check.Once()
	for i, x := range []struct {
		name string
		want api.Errno
	}{{"a", api.OK}, {"b", api.OK}, {"A", api.OK}, {"a", api.ErrTwice}, {"", api.OK}, {"a", api.ErrTwice}, {"", api.ErrTwice}, {"c", api.OK}} {
		if got := once(x.name); got != x.want {
			t.Errorf("name %d: got %d, want %d", i, got, x.want)
		}
	}
	if got := other("a"); got != api.OK {
		t.Errorf("a name that was given to another function: got %d", got)
	}
}
