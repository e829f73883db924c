package sound_test

import (
	"fmt"
	"math"
	"testing"

	"flyover/api"
	"flyover/sound"
)

// P1.3: spectra by weights.
func TestWeighted(t *testing.T) {
	const most = api.MaxEnergy
	for i, x := range []struct {
		s       api.Spectrum
		weights [api.MaxBands]int
		w       api.Spectrum
		e       api.Errno
	}{
		{api.Spectrum{}, [8]int{}, api.Spectrum{}, api.OK},
		{api.Spectrum{5, 4, most, 1, 1, 1, 7, 9}, [8]int{500, 100, 1000, 499, 500, 501, 0, 1000}, api.Spectrum{3, 0, most, 0, 1, 1, 0, 9}, api.OK},
		{api.Spectrum{7: most}, [8]int{7: 999}, api.Spectrum{7: most / 1000 * 999}, api.OK},
		{api.Spectrum{7: most + 1}, [8]int{}, api.Spectrum{}, api.ErrRange},
		{api.Spectrum{-1}, [8]int{1000}, api.Spectrum{}, api.ErrRange},
		{api.Spectrum{5}, [8]int{7: 1001}, api.Spectrum{}, api.ErrRange},
		{api.Spectrum{5}, [8]int{-1}, api.Spectrum{}, api.ErrRange},
		{api.Spectrum{math.MaxInt}, [8]int{math.MinInt}, api.Spectrum{}, api.ErrRange},
	} {
		w, e := sound.Weighted(x.s, x.weights)
		is(t, fmt.Sprint("Weighted ", i), w, x.w)
		is(t, fmt.Sprint("error of Weighted ", i), e, x.e)
	}
}

// P1.3: what is left.
func TestThrough(t *testing.T) {
	const most = api.MaxEnergy
	for i, x := range []struct {
		e, f, left [2]int
		no         api.Errno
	}{
		{[2]int{10, 20}, [2]int{333, 500}, [2]int{3, 10}, api.OK},
		{[2]int{10, 20}, [2]int{333, 501}, [2]int{3, 11}, api.OK},
		{[2]int{1, 1}, [2]int{1, 1}, [2]int{0, 1}, api.OK},
		{[2]int{1001, 1001}, [2]int{900, 950}, [2]int{900, 951}, api.OK},
		{[2]int{7, 7}, [2]int{1000, 1000}, [2]int{7, 7}, api.OK},
		{[2]int{0, most}, [2]int{0, 1000}, [2]int{0, most}, api.OK},
		{[2]int{most, most}, [2]int{0, 0}, [2]int{0, 0}, api.OK},
		{[2]int{most - 1, most - 1}, [2]int{999, 999}, [2]int{9989999999999, 9990000000000}, api.OK},
		{[2]int{}, [2]int{}, [2]int{}, api.OK},
		{[2]int{2, 1}, [2]int{}, [2]int{}, api.ErrOrder},
		{[2]int{-1, 1}, [2]int{}, [2]int{}, api.ErrRange},
		{[2]int{2, -1}, [2]int{}, [2]int{}, api.ErrRange},
		{[2]int{0, most + 1}, [2]int{2, 1}, [2]int{}, api.ErrRange},
		{[2]int{2, 1}, [2]int{-1, 0}, [2]int{}, api.ErrOrder}, // the energies come first
		{[2]int{}, [2]int{0, 1001}, [2]int{}, api.ErrRange},
		{[2]int{}, [2]int{-1, 0}, [2]int{}, api.ErrRange},
		{[2]int{}, [2]int{1001, 1}, [2]int{}, api.ErrRange},
		{[2]int{}, [2]int{2, 1}, [2]int{}, api.ErrOrder},
		{[2]int{math.MinInt, math.MaxInt}, [2]int{math.MinInt, math.MaxInt}, [2]int{}, api.ErrRange},
	} {
		left, no := sound.Through(api.Interval{Low: x.e[0], High: x.e[1]}, api.Interval{Low: x.f[0], High: x.f[1]})
		is(t, fmt.Sprint("Through ", i), left, api.Interval{Low: x.left[0], High: x.left[1]})
		is(t, fmt.Sprint("error of Through ", i), no, x.no)
	}
}
