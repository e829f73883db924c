package check_test

import (
	"math"
	"testing"

	"flyover/api"
	"flyover/check"
)

// The first error decides, and limits are included.
func TestChecks(t *testing.T) {
	even := func(n int) api.Errno {
		if n%2 != 0 {
			return api.Errno(n)
		}
		return api.OK
	}
	for i, x := range []struct{ got, want api.Errno }{
		{check.First(), api.OK}, {check.First(api.OK, api.OK), api.OK}, {check.First(api.OK, api.ErrZero, api.ErrForm), api.ErrZero},
		{check.Each(nil, even), api.OK}, {check.Each([]int{2, 4}, even), api.OK}, {check.Each([]int{2, 5, 3}, even), api.Errno(5)},
		{check.That(true, api.ErrForm), api.OK}, {check.That(false, api.ErrForm), api.ErrForm},
		{check.Ascending(nil, even), api.OK}, {check.Ascending([]int{-2}, even), api.OK}, {check.Ascending([]int{-2, 0, 8}, even), api.OK}, {check.Ascending([]int{2, 2, 5}, even), api.ErrOrder},
		{check.Ascending([]int{4, 2}, even), api.ErrOrder}, {check.Ascending([]int{4, 3}, even), api.Errno(3)}, {check.Ascending([]int{math.MinInt, math.MaxInt - 1, 6}, even), api.ErrOrder},
		{check.AtMost([]int{1, 2}, 2), api.OK}, {check.AtMost([]int{1, 2, 3}, 2), api.ErrMany},
		{check.Count([]int{}, 2), api.ErrEmpty}, {check.Count([]int{1}, 2), api.OK}, {check.Count([]int{1, 2}, 2), api.OK}, {check.Count([]int{1, 2, 3}, 2), api.ErrMany},
		{check.Within(1, 1, 3), api.OK}, {check.Within(3, 1, 3), api.OK}, {check.Within(0, 1, 3), api.ErrRange},
		{check.Within(4, 1, 3), api.ErrRange}, {check.Within(math.MinInt, 1, 3), api.ErrRange},
		{check.Index([]int{7, 7}, 0), api.OK}, {check.Index([]int{7, 7}, 1), api.OK}, {check.Index([]int{7, 7}, 2), api.ErrUnknown}, {check.Index([]int{7, 7}, -1), api.ErrUnknown},
		{check.Index([]int{}, 0), api.ErrUnknown}, {check.Index([]int{7}, math.MinInt), api.ErrUnknown}, {check.Index([]int{7}, math.MaxInt), api.ErrUnknown},
		{check.Span(api.Span{From: 0, To: 3}, 3), api.OK}, {check.Span(api.Span{From: 2, To: 3}, 3), api.OK}, {check.Span(api.Span{From: 2, To: 2}, 3), api.ErrSpan},
		{check.Span(api.Span{From: 2, To: 1}, 3), api.ErrSpan}, {check.Span(api.Span{From: -1, To: 1}, 3), api.ErrSpan}, {check.Span(api.Span{From: 0, To: 4}, 3), api.ErrSpan},
		{check.Span(api.Span{From: math.MinInt, To: math.MaxInt}, 3), api.ErrSpan}, {check.Span(api.Span{From: math.MaxInt, To: math.MinInt}, 3), api.ErrSpan},
		{check.Interval(api.Interval{Low: 2, High: 4}, even), api.OK}, {check.Interval(api.Interval{Low: 2, High: 2}, even), api.OK},
		{check.Interval(api.Interval{Low: 5, High: 3}, even), api.Errno(5)}, {check.Interval(api.Interval{Low: 4, High: 3}, even), api.Errno(3)},
		{check.Interval(api.Interval{Low: 4, High: 2}, even), api.ErrOrder},
	} {
		if x.got != x.want {
			t.Errorf("check %d: got %d, want %d", i, x.got, x.want)
		}
	}
}

// The first fault that holds decides, and those after it are not asked.
func TestWrong(t *testing.T) {
	asked := 0
	faults := []check.Fault[int, string]{
		{Tell: "low", Holds: func(n int) bool { return n < 0 }},
		{Tell: "odd", Holds: func(n int) bool { return n%2 != 0 }},
		{Tell: "high", Holds: func(n int) bool {
			asked++
			return n > 9
		}},
	}
	for _, x := range []struct {
		n    int
		want string
	}{{0, ""}, {8, ""}, {-2, "low"}, {-1, "low"}, {3, "odd"}, {11, "odd"}, {10, "high"}} {
		if got := check.Wrong(x.n, faults); got != x.want {
			t.Errorf("what is wrong with %d: got %q, want %q", x.n, got, x.want)
		}
	}
	if asked != 3 {
		t.Errorf("the last fault was asked %d times", asked)
	}
	if got := check.Wrong[int, api.Errno](-1, nil); got != api.OK {
		t.Errorf("without faults: got %d", got)
	}
}

// A name is there once, whatever comes between, in a list that is not too long.
func TestNamed(t *testing.T) {
	short := func(s string, once check.Once) api.Errno {
		return check.First(check.That(len(s) < 2, api.ErrName), once(s), check.That(s != "z", api.ErrForm))
	}
	for i, x := range []struct {
		l    []string
		want api.Errno
	}{
		{nil, api.OK}, {[]string{"a"}, api.OK}, {[]string{"a", "b", "A", ""}, api.OK}, {[]string{"a", "b", "A", "", "c"}, api.ErrMany}, {[]string{"aa", "z", "a", "a", "a"}, api.ErrMany},
		{[]string{"a", "b", "A", "a"}, api.ErrTwice}, {[]string{"", "b", ""}, api.ErrTwice}, {[]string{"a", "a", "bb"}, api.ErrTwice}, {[]string{"a", "bb", "a"}, api.ErrName}, {[]string{"bb", "bb"}, api.ErrName}, {[]string{"z", "z"}, api.ErrForm},
	} {
		if got := check.Named(x.l, 4, short); got != x.want {
			t.Errorf("list %d: got %d, want %d", i, got, x.want)
		}
	}
	if got := check.Named([]string{"a", "a"}, 4, func(s string, once check.Once) api.Errno { return api.OK }); got != api.OK {
		t.Errorf("names that are not asked for: got %d", got)
	}
}
