package monitor_test

import (
	"fmt"
	"math"
	"slices"
	"testing"

	"flyover/api"
	"flyover/monitor"
)

// P5.1: the errors of records.
func TestCheckRecord(t *testing.T) {
	for i, x := range []struct {
		r []int
		e api.Errno
	}{
		{sample(), api.OK}, {[]int{0}, api.OK}, {[]int{-1}, api.OK}, {[]int{api.MaxEnergy}, api.OK}, {alike(1024, 0), api.OK}, {alike(1024, -1), api.OK},
		{nil, api.ErrEmpty}, {[]int{}, api.ErrEmpty}, {alike(1025, 0), api.ErrMany}, {alike(1025, -2), api.ErrMany},
		{[]int{-2}, api.ErrRange}, {[]int{0, -2}, api.ErrRange}, {[]int{api.MaxEnergy + 1}, api.ErrRange}, {[]int{0, 1, math.MinInt}, api.ErrRange}, {[]int{math.MaxInt, 0}, api.ErrRange},
	} {
		is(t, fmt.Sprint("CheckRecord ", i), monitor.CheckRecord(x.r), x.e)
	}
}

// P5.1: the factors of a check.
func TestCalibrated(t *testing.T) {
	const most = 1000000000
	for i, x := range []struct {
		reference         int
		measured, factors api.Interval
		e                 api.Errno
	}{
		{1000, of(900, 950), of(1052, 1112), api.OK}, {1000, of(1000, 1000), of(1000, 1000), api.OK}, {1000, of(1, 1000), of(0, 0), api.ErrLarge},
		{3, of(1, 2), of(1500, 3000), api.OK}, {2, of(3, 3), of(666, 667), api.OK}, {1, of(3, 7), of(142, 334), api.OK},
		{most, of(most, most), of(1000, 1000), api.OK}, {most, of(most-1, most), of(1000, 1001), api.OK}, {1, of(most, most), of(0, 1), api.OK}, {1, of(1, most), of(0, 1000), api.OK},
		{10, of(1, 1), of(10000, 10000), api.OK}, {10, of(1, 20), of(500, 10000), api.OK}, {11, of(1, 1), of(0, 0), api.ErrLarge},
		{100, of(10, 10), of(10000, 10000), api.OK}, {100001, of(10000, 10000), of(0, 0), api.ErrLarge}, {most, of(1, 1), of(0, 0), api.ErrLarge},
		{0, of(1, 1), of(0, 0), api.ErrRange}, {-1, of(1, 1), of(0, 0), api.ErrRange}, {most + 1, of(most, most), of(0, 0), api.ErrRange},
		{1, of(0, 1), of(0, 0), api.ErrRange}, {1, of(1, most+1), of(0, 0), api.ErrRange}, {1, of(2, 1), of(0, 0), api.ErrOrder}, {1, of(2, 0), of(0, 0), api.ErrRange},
		{1, of(most+1, 1), of(0, 0), api.ErrRange}, {0, of(2, 1), of(0, 0), api.ErrRange}, {most, of(2, 1), of(0, 0), api.ErrOrder},
		{math.MaxInt, of(math.MinInt, math.MaxInt), of(0, 0), api.ErrRange}, {1, of(math.MinInt, math.MaxInt), of(0, 0), api.ErrRange},
	} {
		f, e := monitor.Calibrated(x.reference, x.measured)
		is(t, fmt.Sprint("Calibrated ", i), f, x.factors)
		is(t, fmt.Sprint("error of Calibrated ", i), e, x.e)
	}
}

// P5.1: the factors of two checks together.
func TestAgreed(t *testing.T) {
	for i, x := range []struct {
		a, b, both api.Interval
		e          api.Errno
	}{
		{of(1052, 1112), of(1100, 1200), of(1100, 1112), api.OK}, {of(1100, 1200), of(1052, 1112), of(1100, 1112), api.OK}, {of(5, 9), of(6, 7), of(6, 7), api.OK},
		{of(1, 2), of(2, 3), of(2, 2), api.OK}, {of(2, 3), of(1, 2), of(2, 2), api.OK}, {of(0, 10000), of(0, 10000), of(0, 10000), api.OK}, {of(0, 0), of(0, 0), of(0, 0), api.OK},
		{of(1, 2), of(3, 4), of(0, 0), api.ErrConflict}, {of(3, 4), of(1, 2), of(0, 0), api.ErrConflict},
		{of(-1, 2), of(2, 1), of(0, 0), api.ErrRange}, {of(1, 10001), of(2, 1), of(0, 0), api.ErrRange}, {of(2, 1), of(-1, 0), of(0, 0), api.ErrOrder},
		{of(10001, 2), of(1, 2), of(0, 0), api.ErrRange}, {of(2, -1), of(1, 2), of(0, 0), api.ErrRange},
		{of(1, 2), of(-1, 0), of(0, 0), api.ErrRange}, {of(1, 2), of(3, 10001), of(0, 0), api.ErrRange}, {of(1, 2), of(4, 3), of(0, 0), api.ErrOrder},
	} {
		both, e := monitor.Agreed(x.a, x.b)
		is(t, fmt.Sprint("Agreed ", i), both, x.both)
		is(t, fmt.Sprint("error of Agreed ", i), e, x.e)
	}
}

// P5.1: records times factors.
func TestCorrected(t *testing.T) {
	const most = api.MaxEnergy
	for i, x := range []struct {
		r       []int
		factors api.Interval
		l       []api.Interval
		e       api.Errno
	}{
		{[]int{50, -1, 0}, of(1052, 1112), []api.Interval{of(52, 56), of(-1, -1), of(0, 0)}, api.OK},
		{[]int{1, 999, 1000, 1001}, of(1, 999), []api.Interval{of(0, 1), of(0, 999), of(1, 999), of(1, 1000)}, api.OK},
		{[]int{7, -1}, of(0, 0), []api.Interval{of(0, 0), of(-1, -1)}, api.OK}, {[]int{7}, of(10000, 10000), []api.Interval{of(70, 70)}, api.OK},
		{[]int{most, -1}, of(0, 1000), []api.Interval{of(0, most), of(-1, -1)}, api.OK}, {[]int{most}, of(1000, 1001), nil, api.ErrLarge},
		{[]int{0, most / 10}, of(9999, 10000), []api.Interval{of(0, 0), of(9999000000000, most)}, api.OK}, {[]int{0, most/10 + 1, -1}, of(0, 10000), nil, api.ErrLarge},
		{[]int{most - 1}, of(1000, 1000), []api.Interval{of(most-1, most-1)}, api.OK}, {[]int{most}, of(10000, 10000), nil, api.ErrLarge},
		// A missing second is none that is too large, or below 0.
		{[]int{-1, -1}, of(10000, 10000), []api.Interval{of(-1, -1), of(-1, -1)}, api.OK},
		{badRecord, of(2, 1), nil, api.ErrEmpty}, {[]int{-2}, of(2, 1), nil, api.ErrRange}, {alike(1025, 0), of(0, 1), nil, api.ErrMany},
		{[]int{most}, of(2000, 1000), nil, api.ErrOrder}, {[]int{1}, of(-1, 1), nil, api.ErrRange}, {[]int{1}, of(1, 10001), nil, api.ErrRange},
	} {
		l, e := monitor.Corrected(x.r, x.factors)
		are(t, fmt.Sprint("Corrected ", i), l, x.l)
		is(t, fmt.Sprint("error of Corrected ", i), e, x.e)
	}
}

// P5.1: the background.
func TestBackground(t *testing.T) {
	hundred := make([]int, 100)
	for i := range hundred {
		hundred[i] = (i * 37) % 100
	}
	for i, x := range []struct {
		r          []int
		percent, n int
		e          api.Errno
	}{
		{sample(), 50, 50, api.OK}, {sample(), 90, 4, api.OK}, {sample(), 1, 90, api.OK}, {sample(), 14, 90, api.OK}, {sample(), 15, 60, api.OK}, {sample(), 100, 4, api.OK},
		{sample(), 71, 5, api.OK}, {sample(), 72, 4, api.OK}, {hundred, 1, 99, api.OK}, {hundred, 2, 98, api.OK}, {hundred, 50, 50, api.OK}, {hundred, 99, 1, api.OK}, {hundred, 100, 0, api.OK},
		{[]int{-1, 7, -1}, 1, 7, api.OK}, {[]int{-1, 7, -1}, 100, 7, api.OK}, {[]int{0, -1}, 50, 0, api.OK}, {alike(1024, 3), 77, 3, api.OK},
		{sample(), 0, 0, api.ErrRange}, {sample(), 101, 0, api.ErrRange}, {sample(), math.MinInt, 0, api.ErrRange}, {sample(), math.MaxInt, 0, api.ErrRange},
		{[]int{-1}, 50, 0, api.ErrNone}, {alike(1024, -1), 100, 0, api.ErrNone}, {[]int{-1}, 0, 0, api.ErrRange}, {badRecord, 0, 0, api.ErrEmpty}, {[]int{-2}, 50, 0, api.ErrRange},
	} {
		n, e := monitor.Background(x.r, x.percent)
		is(t, fmt.Sprint("Background ", i), n, x.n)
		is(t, fmt.Sprint("error of Background ", i), e, x.e)
	}
}

// P5.1: in so many percent of the seconds at least it is as loud as the background, and in no more percent it is louder.
func TestBackgroundByCounting(t *testing.T) {
	r := seeded()
	for range 3000 {
		l, percent := someRecord(r, 40), from(r, 1, 100)
		heard, missing := 0, 0
		for _, n := range l {
			if n == monitor.Missing {
				missing++
			} else {
				heard++
			}
		}
		back, e := monitor.Background(l, percent)
		if heard == 0 {
			is(t, "error of Background of nothing", e, api.ErrNone)
			continue
		}
		is(t, "error of Background", e, api.OK)
		least, above := 0, 0
		for _, n := range l {
			if n >= back {
				least++
			}
			if n > back {
				above++
			}
		}
		what := fmt.Sprint("the background ", back, " of ", l, " for ", percent)
		is(t, what, slices.Contains(l, back) && back >= 0, true)
		is(t, what, 100*least >= percent*heard && 100*above < percent*heard, true)
	}
}

// P5.1: totals.
func TestTotals(t *testing.T) {
	const most = api.MaxEnergy
	for i, x := range []struct {
		r                  []int
		sum, peak, missing int
		e                  api.Errno
	}{
		{sample(), 268, 90, 1, api.OK}, {[]int{-1, -1}, 0, 0, 2, api.OK}, {[]int{0}, 0, 0, 0, api.OK}, {[]int{7, -1, 7, -1}, 14, 7, 2, api.OK},
		{[]int{most, -1, 0}, most, most, 1, api.OK}, {[]int{most - 1, 1}, most, most - 1, 0, api.OK}, {[]int{most, 1}, 0, 0, 0, api.ErrLarge},
		{[]int{1, -1, most}, 0, 0, 0, api.ErrLarge}, {alike(1024, most), 0, 0, 0, api.ErrLarge}, {alike(1024, most/1024), most / 1024 * 1024, most / 1024, 0, api.OK},
		{badRecord, 0, 0, 0, api.ErrEmpty}, {alike(1025, 1), 0, 0, 0, api.ErrMany}, {[]int{most, 1, -2}, 0, 0, 0, api.ErrRange},
	} {
		sum, peak, missing, e := monitor.Totals(x.r)
		is(t, fmt.Sprint("Totals ", i), [3]int{sum, peak, missing}, [3]int{x.sum, x.peak, x.missing})
		is(t, fmt.Sprint("error of Totals ", i), e, x.e)
	}
}
