package monitor_test

import (
	"fmt"
	"math"
	"slices"
	"testing"

	"flyover/api"
	"flyover/monitor"
)

// samples returns n samples with one value.
func samples(n int, x float32) []float32 { return slices.Repeat([]float32{x}, n) }

var (
	wave     = []float32{1, 2, 0, 0}
	nan      = float32(math.NaN())
	infinity = float32(math.Inf(1))
	zero     float32
)

// P5.2: correlations and lags.
func TestLags(t *testing.T) {
	for i, x := range []struct {
		a, b []float32
		l    []int
		lag  int
		two  [2]int
	}{
		{[]float32{1, 0, 0, 0}, []float32{0, 0, 0, 1}, []int{0, 0, 0, 256}, -1, [2]int{256, 0}},
		{wave, []float32{0, 1, 2, 0}, []int{512, 1280, 512, 0}, 1, [2]int{1280, 512}}, {[]float32{0, 1, 2, 0}, wave, []int{512, 0, 512, 1280}, -1, [2]int{1280, 512}},
		// Half of the way around is not less of it back.
		{wave, []float32{0, 0, 1, 2}, []int{0, 512, 1280, 512}, 2, [2]int{1280, 512}}, {[]float32{1, 0}, []float32{0, 1}, []int{0, 256}, 1, [2]int{256, 0}},
		{[]float32{1, 0, 0}, []float32{0, 1, 0}, []int{0, 256, 0}, 1, [2]int{256, 0}}, {[]float32{1, 0, 0}, []float32{0, 0, 1}, []int{0, 0, 256}, -1, [2]int{256, 0}},
		{[]float32{1, 0, 0, 0, 0}, []float32{0, 0, 0, 1, 0}, []int{0, 0, 0, 256, 0}, -2, [2]int{256, 0}},
		// Of several greatest ones the least d, also when the sums are below 0.
		{[]float32{1, 1}, []float32{1, 1}, []int{512, 512}, 0, [2]int{512, 512}}, {[]float32{1, 0, 0, 0}, []float32{0, 3, 0, 3}, []int{0, 768, 0, 768}, 1, [2]int{768, 768}},
		{[]float32{1, 0}, []float32{-1, -2}, []int{-256, -512}, 0, [2]int{-256, -512}}, {[]float32{1, 0}, []float32{-3, -2}, []int{-768, -512}, 1, [2]int{-512, -768}},
		{[]float32{0, 0, 0}, []float32{1, 2, 3}, []int{0, 0, 0}, 0, [2]int{}}, {[]float32{-zero, 1}, []float32{1, -zero}, []int{0, 256}, 1, [2]int{256, 0}},
		// Sixteenths, and the greatest samples.
		{[]float32{0.0625, 0}, []float32{-0.0625, 0.125}, []int{-1, 2}, 1, [2]int{2, -1}},
		{samples(16, 1024), samples(16, 1024), alike(16, 1<<32), 0, [2]int{1 << 32, 1 << 32}}, {samples(2, 1024), samples(2, -1024), alike(2, -1<<29), 0, [2]int{-1 << 29, -1 << 29}},
	} {
		l, e := monitor.Correlations(x.a, x.b)
		are(t, fmt.Sprint("Correlations ", i), l, x.l)
		is(t, fmt.Sprint("error of Correlations ", i), e, api.OK)
		lag, two, e := monitor.Lag(x.a, x.b)
		is(t, fmt.Sprint("Lag ", i), lag, x.lag)
		is(t, fmt.Sprint("the two greatest ", i), two, x.two)
		is(t, fmt.Sprint("error of Lag ", i), e, api.OK)
	}
}

// P5.2: the errors of windows.
func TestWindowErrors(t *testing.T) {
	for i, x := range []struct {
		a, b []float32
		e    api.Errno
	}{
		{samples(2, 0), samples(2, 0), api.OK}, {samples(16, 0), samples(16, 0), api.OK}, {samples(2, -1024), samples(2, 1024), api.OK},
		{nil, wave, api.ErrShort}, {samples(1, nan), wave, api.ErrShort}, {samples(17, nan), nil, api.ErrMany}, {samples(17, 0), samples(17, 0), api.ErrMany}, {samples(5000, 0), wave, api.ErrMany},
		{[]float32{1, nan, 2000}, wave, api.ErrForm}, {[]float32{1, 2000, nan}, wave, api.ErrRange}, {[]float32{infinity, 0}, wave, api.ErrForm}, {[]float32{-infinity, 0}, nil, api.ErrForm},
		{[]float32{0, 0.03}, wave, api.ErrRange}, {[]float32{1024.0625, 0}, wave, api.ErrRange}, {[]float32{-1024.0625, 0}, nil, api.ErrRange},
		{wave, nil, api.ErrShort}, {wave, samples(1, 0), api.ErrShort}, {wave, samples(17, nan), api.ErrMany}, {wave, []float32{0, nan}, api.ErrForm}, {wave, []float32{0, 0, 0.01, 0, 0}, api.ErrRange},
		{wave, samples(3, 0), api.ErrShape}, {wave, samples(5, 0), api.ErrShape}, {samples(3, 0), wave, api.ErrShape}, {samples(2, 0), samples(16, 0), api.ErrShape},
	} {
		l, e := monitor.Correlations(x.a, x.b)
		is(t, fmt.Sprint("error of Correlations ", i), e, x.e)
		lag, two, e := monitor.Lag(x.a, x.b)
		is(t, fmt.Sprint("error of Lag ", i), e, x.e)
		if x.e != api.OK {
			are(t, "correlations beside the error", l, nil)
			is(t, "lag beside the error", lag, 0)
			is(t, "two beside the error", two, [2]int{})
		}
	}
}

// P5.2: correlations by the definition, with floats.
func TestCorrelationsByDefinition(t *testing.T) {
	r := seeded()
	for range 2000 {
		n, most := from(r, 2, 16), []int{1, 3, 16384}[r.Intn(3)]
		a, b := samples(n, 0), samples(n, 0)
		for i := range n {
			a[i], b[i] = float32(from(r, -most, most))/16, float32(from(r, -most, most))/16
		}
		got, e := monitor.Correlations(a, b)
		is(t, "error of Correlations", e, api.OK)
		var want []int
		for d := range n {
			sum := 0.0
			for j := range n {
				sum += 256 * float64(a[(j+n-d)%n]) * float64(b[j])
			}
			want = append(want, int(sum))
		}
		what := fmt.Sprint(a, b)
		are(t, "Correlations of "+what, got, want)
		lag, two, e := monitor.Lag(a, b)
		is(t, "error of Lag", e, api.OK)
		d := (lag + n) % n
		is(t, fmt.Sprint("the range of the lag ", lag, " of "+what), 2*lag <= n && 2*lag > -n, true)
		is(t, "the greatest correlation of "+what, two[0], want[d])
		for i, x := range want {
			is(t, "a greater one of "+what, x > two[0] || x == two[0] && i < d, false)
		}
		slices.Sort(want)
		is(t, "the next one of "+what, two, [2]int{want[n-1], want[n-2]})
	}
}

// P5.2: bearings.
func TestBearing(t *testing.T) {
	for i, x := range []struct {
		x, y, sector int
		e            api.Errno
	}{
		{4, 1, 0, api.OK}, {4, -1, 0, api.OK}, {8, 0, 0, api.OK}, {1, 0, 0, api.OK}, {3, 1, 0, api.OK}, {7, -3, 0, api.OK}, {7, 3, 0, api.OK},
		{4, 2, 1, api.OK}, {2, 2, 1, api.OK}, {1, 2, 1, api.OK}, {3, 2, 1, api.OK}, {8, 4, 1, api.OK}, {4, 8, 1, api.OK},
		{-1, 3, 2, api.OK}, {1, 3, 2, api.OK}, {0, 1, 2, api.OK}, {0, 8, 2, api.OK}, {-3, 7, 2, api.OK},
		{-3, 2, 3, api.OK}, {-1, 2, 3, api.OK}, {-2, 1, 3, api.OK}, {-8, 8, 3, api.OK},
		{-8, 0, 4, api.OK}, {-3, 1, 4, api.OK}, {-3, -1, 4, api.OK}, {-7, 3, 4, api.OK},
		{-2, -3, 5, api.OK}, {-2, -1, 5, api.OK}, {-1, -2, 5, api.OK}, {-8, -8, 5, api.OK},
		{0, -1, 6, api.OK}, {1, -3, 6, api.OK}, {-1, -3, 6, api.OK}, {3, -7, 6, api.OK},
		{2, -2, 7, api.OK}, {1, -2, 7, api.OK}, {2, -1, 7, api.OK}, {8, -4, 7, api.OK},
		{0, 0, 0, api.ErrZero}, {9, 0, 0, api.ErrRange}, {-9, 0, 0, api.ErrRange}, {0, 9, 0, api.ErrRange}, {0, -9, 0, api.ErrRange},
		{math.MinInt, 0, 0, api.ErrRange}, {0, math.MaxInt, 0, api.ErrRange},
	} {
		sector, e := monitor.Bearing(x.x, x.y)
		is(t, fmt.Sprint("Bearing ", i), sector, x.sector)
		is(t, fmt.Sprint("error of Bearing ", i), e, x.e)
	}
}

// P5.2: a quarter turn of the lags is one of the sector, and the mirror of the lags that of the sector.
func TestBearingsTurn(t *testing.T) {
	for x := -8; x <= 8; x++ {
		for y := -8; y <= 8; y++ {
			if x == 0 && y == 0 {
				continue
			}
			sector, e := monitor.Bearing(x, y)
			is(t, "error of Bearing", e, api.OK)
			turned, _ := monitor.Bearing(-y, x)
			is(t, fmt.Sprint("the turned bearing of ", x, y), turned, (sector+2)%8)
			mirrored, _ := monitor.Bearing(x, -y)
			is(t, fmt.Sprint("the mirrored bearing of ", x, y), mirrored, (8-sector)%8)
			// East is where the angle is less than that of 2 and 1.
			is(t, fmt.Sprint("east of ", x, y), sector == 0, math.Abs(math.Atan2(float64(y), float64(x))) < math.Atan2(1, 2)-1e-9)
		}
	}
}
