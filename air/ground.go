package air

import (
	"math"

	"flyover/api"
	"flyover/check"
	"flyover/number"
)

// finite returns ErrForm for NaN and infinities, or OK.
func finite(x float64) api.Errno {
	if math.IsNaN(x) || math.IsInf(x, 0) {
		return api.ErrForm
	}
	return api.OK
}

// integral returns ErrRange for a number that is not an integer from low to high, or OK.
func integral(x, low, high float64) api.Errno {
	if x < low || x > high || x != math.Trunc(x) {
		return api.ErrRange
	}
	return api.OK
}

// checkImpedance returns the first error of an impedance, or OK.
func checkImpedance(z complex128) api.Errno {
	return check.First(
		finite(real(z)),
		finite(imag(z)),
		integral(real(z), 0, MaxImpedance),
		integral(imag(z), -MaxImpedance, MaxImpedance),
	)
}

// conjugate returns that of a complex number.
func conjugate(z complex128) complex128 {
	return complex(real(z), -imag(z))
}

// norm returns the square of the absolute value of a complex integer.
func norm(z complex128) int {
	return int(real(z * conjugate(z)))
}

// Factor returns the reflection factor of a ground.
func Factor(impedance complex128) (api.Gauss, int, api.Errno) {
	if e := checkImpedance(impedance); e != api.OK {
		return api.Gauss{}, 0, e
	}
	// All parts stay integers of less than 53 bits, so that no product is rounded; a quotient would be.
	z := (impedance - 1) * conjugate(impedance+1)
	re, im, den := int(real(z)), int(imag(z)), norm(impedance+1)
	d := number.Divisor(re, number.Divisor(im, den))
	return api.Gauss{Re: re / d, Im: im / d}, den / d, api.OK
}

// share returns that of an impedance.
func share(impedance complex128) api.Ratio {
	return number.Ratio(norm(impedance-1), norm(impedance+1))
}

// Share returns the share of the energy that a ground reflects.
func Share(impedance complex128) (api.Ratio, api.Errno) {
	if e := checkImpedance(impedance); e != api.OK {
		return api.Ratio{}, e
	}
	return share(impedance), api.OK
}

// groundSteps returns the steps of the path by the ground in each layer.
func groundSteps(a []Layer, p Path) []api.Interval {
	h := p.heights()
	if h == (heights{}) {
		return level(a, p.square(0), 0)
	}
	sum := h[0] + h[1]
	return spread(a, p.square(sum), sum, func(x placed) int { return x.upTo(h[0]) + x.upTo(h[1]) })
}

// Echoed returns the transmittance of the path by the ground.
func Echoed(a []Layer, p Path) ([]api.Interval, api.Errno) {
	if e := check.First(CheckAir(a), CheckPath(p)); e != api.OK {
		return nil, e
	}
	return passed(a, groundSteps(a, p)), api.OK
}

// echo returns what arrives of an energy by a transmittance and by the ground's share.
func echo(energy int, pass api.Interval, share api.Ratio) api.Interval {
	// One division by both: two would round twice.
	return both(func(r rounding) int { return r.divided(energy*r.end(pass)*share.Num, Whole*share.Den) })
}

// Total returns the energies that arrive over a path and by the ground.
func Total(a []Layer, p Path, impedance complex128, energies []int) ([]api.Interval, api.Errno) {
	if e := check.First(CheckAir(a), CheckPath(p), checkImpedance(impedance), checkEnergies(a, energies, MaxSource)); e != api.OK {
		return nil, e
	}
	straight, byGround := passed(a, directSteps(a, p)), passed(a, groundSteps(a, p))
	reflected := share(impedance)
	l := make([]api.Interval, bands(a))
	for band := range bands(a) {
		x := arrived(energies[band], straight[band])
		y := echo(energies[band], byGround[band], reflected)
		l[band] = api.Interval{Low: x.Low + y.Low, High: x.High + y.High}
	}
	return l, api.OK
}
