package sound

import (
	"flyover/api"
	"flyover/check"
	"flyover/number"
)

// checkFactor returns ErrRange for a factor, or a weight, that is not from 0 to Whole, or OK.
func checkFactor(n int) api.Errno {
	return check.Within(n, 0, Whole)
}

// Weighted returns a spectrum times weights.
func Weighted(s api.Spectrum, weights [api.MaxBands]int) (api.Spectrum, api.Errno) {
	if e := check.First(check.Each(s[:], CheckEnergy), check.Each(weights[:], checkFactor)); e != api.OK {
		return api.Spectrum{}, e
	}
	var changed api.Spectrum
	copy(changed[:], s[:])
	for i, w := range weights {
		changed[i] = number.Nearest(changed[i]*w, Whole)
	}
	return changed, api.OK
}

// Through returns what is left of the energies of an interval.
func Through(e, factor api.Interval) (api.Interval, api.Errno) {
	if no := check.First(check.Interval(e, CheckEnergy), check.Interval(factor, checkFactor)); no != api.OK {
		return api.Interval{}, no
	}
	return api.Interval{
		Low:  e.Low * factor.Low / Whole,
		High: (e.High*factor.High + Whole - 1) / Whole,
	}, api.OK
}
