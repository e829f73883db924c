package sound

import (
	"math"

	"flyover/api"
	"flyover/check"
	"flyover/number"
)

// perUnit is the integer of the sample 1.
const perUnit = 16

// IsName reports whether a string is a name.
func IsName(s string) bool {
	if s == "" || len(s) > api.MaxName {
		return false
	}
	for i, r := range s {
		later := r >= '0' && r <= '9' || r == '_'
		if !isLetter(r) && (i == 0 || !later) {
			return false
		}
	}
	return true
}

func isLetter(r rune) bool {
	return r >= 'A' && r <= 'Z' || r >= 'a' && r <= 'z'
}

// Draw returns the permutation of n elements by a number.
func Draw(number, n int) ([]int, api.Errno) {
	if e := check.First(check.Within(number, 0, api.MaxNumber), check.Within(n, 0, api.MaxList)); e != api.OK {
		return nil, e
	}
	l := make([]int, n)
	for i := range n {
		l[i] = i
	}
	x := number
	for i := n - 1; i > 0; i-- {
		x = (69621*x + 7) % 2147483647
		j := x % (i + 1)
		l[i], l[j] = l[j], l[i]
	}
	return l, api.OK
}

// CheckRatio returns the first error of a ratio, or OK.
func CheckRatio(x api.Ratio) api.Errno {
	if e := check.First(check.Within(x.Num, -api.MaxNumber, api.MaxNumber), check.Within(x.Den, 1, api.MaxNumber)); e != api.OK {
		return e
	}
	if number.Divisor(x.Num, x.Den) != 1 {
		return api.ErrForm
	}
	return api.OK
}

// CheckSample returns the first error of a sample, or OK.
func CheckSample(x float32) api.Errno {
	return check.First(finite(x), stepped(x, api.MaxValue))
}

// finite returns ErrForm for NaN and infinities, or OK.
func finite(x float32) api.Errno {
	if y := float64(x); math.IsNaN(y) || math.IsInf(y, 0) {
		return api.ErrForm
	}
	return api.OK
}

// stepped returns ErrRange for a number that is not a multiple of 1/16 from -limit to limit, or OK.
func stepped(x, limit float32) api.Errno {
	// 16 times a large float32 is infinite, but not as a float64.
	if y := float64(x) * perUnit; x < -limit || x > limit || y != math.Trunc(y) {
		return api.ErrRange
	}
	return api.OK
}

// CheckSamples returns the first error of samples, or OK.
func CheckSamples(l []float32) api.Errno {
	return check.First(check.AtMost(l, api.MaxSamples), check.Each(l, CheckSample))
}

// checkPanel returns the first error of a panel, or OK.
func checkPanel(p [4]complex64) api.Errno {
	var parts [8]float32
	for i, z := range p {
		parts[2*i], parts[2*i+1] = real(z), imag(z)
	}
	inRange := func(x float32) api.Errno { return stepped(x, 4*api.MaxValue) }
	return check.First(check.Each(parts[:], finite), check.Each(parts[:], inRange))
}

// turned returns the sum of each element z at the index n times unit to the power of k n.
func turned(l [4]complex64, unit complex64, k int) complex64 {
	var sum complex64
	turn, step := complex64(1), complex64(1)
	for range k {
		step *= unit
	}
	for _, z := range l {
		sum += z * turn
		turn *= step
	}
	return sum
}

// Four returns the transform of four samples.
func Four(l [4]float32) ([4]complex64, api.Errno) {
	if e := check.Each(l[:], CheckSample); e != api.OK {
		return [4]complex64{}, e
	}
	var samples, p [4]complex64
	for n, x := range l {
		samples[n] = complex(x, 0)
	}
	for k := range p {
		p[k] = turned(samples, -1i, k)
	}
	return p, api.OK
}

// Unfour returns the four samples of a transform.
func Unfour(p [4]complex64) ([4]float32, api.Errno) {
	if e := checkPanel(p); e != api.OK {
		return [4]float32{}, e
	}
	var l [4]float32
	for n := range l {
		// All sums and quarters are exact: they have at most 19 bits.
		z := turned(p, 1i, n)
		x := real(z) / 4
		if imag(z) != 0 || CheckSample(x) != api.OK {
			return [4]float32{}, api.ErrForm
		}
		l[n] = x
	}
	return l, api.OK
}

// Cross returns the cross-spectrum of two transforms.
func Cross(p, q [4]complex64) ([4]api.Gauss, api.Errno) {
	if e := check.First(checkPanel(p), checkPanel(q)); e != api.OK {
		return [4]api.Gauss{}, e
	}
	var l [4]api.Gauss
	for k := range l {
		// A product has up to 34 bits: too many for a complex64.
		a, b := complex128(p[k])*perUnit, complex128(q[k])*perUnit
		z := a * complex(real(b), -imag(b))
		l[k] = api.Gauss{Re: int(real(z)), Im: int(imag(z))}
	}
	return l, api.OK
}
