package air_test

import (
	"fmt"
	"math"
	"math/big"
	"testing"

	"flyover/air"
	"flyover/api"
)

// P3.4: reflection factors and shares.
func TestFactorAndShare(t *testing.T) {
	nan, inf := math.NaN(), math.Inf(1)
	for i, x := range []struct {
		z        complex128
		f        api.Gauss
		n        int
		num, den int
		e        api.Errno
	}{
		{3 + 4i, api.Gauss{Re: 3, Im: 1}, 4, 5, 8, api.OK}, {3 - 4i, api.Gauss{Re: 3, Im: -1}, 4, 5, 8, api.OK},
		{1i, api.Gauss{Im: 1}, 1, 1, 1, api.OK}, {-1i, api.Gauss{Im: -1}, 1, 1, 1, api.OK}, {2i, api.Gauss{Re: 3, Im: 4}, 5, 1, 1, api.OK},
		{1, api.Gauss{}, 1, 0, 1, api.OK}, {0, api.Gauss{Re: -1}, 1, 1, 1, api.OK}, {9, api.Gauss{Re: 4}, 5, 16, 25, api.OK},
		{complex(math.Copysign(0, -1), math.Copysign(0, -1)), api.Gauss{Re: -1}, 1, 1, 1, api.OK},
		{1 + 1i, api.Gauss{Re: 1, Im: 2}, 5, 1, 5, api.OK}, {1000, api.Gauss{Re: 999}, 1001, 998001, 1002001, api.OK},
		{1000 + 1000i, api.Gauss{Re: 1999999, Im: 2000}, 2002001, 1998001, 2002001, api.OK},
		{1000 - 1000i, api.Gauss{Re: 1999999, Im: -2000}, 2002001, 1998001, 2002001, api.OK},
		{1000i, api.Gauss{Re: 999999, Im: 2000}, 1000001, 1, 1, api.OK},
		{complex(nan, 0), api.Gauss{}, 0, 0, 0, api.ErrForm}, {complex(0, nan), api.Gauss{}, 0, 0, 0, api.ErrForm},
		{complex(inf, 0), api.Gauss{}, 0, 0, 0, api.ErrForm}, {complex(-1, inf), api.Gauss{}, 0, 0, 0, api.ErrForm},
		{complex(0.5, -inf), api.Gauss{}, 0, 0, 0, api.ErrForm}, {complex(-inf, 0), api.Gauss{}, 0, 0, 0, api.ErrForm},
		{-1, api.Gauss{}, 0, 0, 0, api.ErrRange}, {1001, api.Gauss{}, 0, 0, 0, api.ErrRange}, {0.5, api.Gauss{}, 0, 0, 0, api.ErrRange},
		{1 + 1001i, api.Gauss{}, 0, 0, 0, api.ErrRange}, {1 - 1001i, api.Gauss{}, 0, 0, 0, api.ErrRange}, {1 + 0.5i, api.Gauss{}, 0, 0, 0, api.ErrRange},
		{1e300, api.Gauss{}, 0, 0, 0, api.ErrRange}, {-1e300i, api.Gauss{}, 0, 0, 0, api.ErrRange}, {5e-324, api.Gauss{}, 0, 0, 0, api.ErrRange},
		{-5e-324i, api.Gauss{}, 0, 0, 0, api.ErrRange},
	} {
		f, n, e := air.Factor(x.z)
		is(t, fmt.Sprint("Factor of ", x.z), f, x.f)
		is(t, fmt.Sprint("what divides it of ", x.z), n, x.n)
		is(t, fmt.Sprint("error of Factor ", i), e, x.e)
		s, e := air.Share(x.z)
		is(t, fmt.Sprint("Share of ", x.z), s, api.Ratio{Num: x.num, Den: x.den})
		is(t, fmt.Sprint("error of Share ", i), e, x.e)
	}
}

// common returns the greatest common divisor of integers.
func common(l ...int) int {
	d := new(big.Int)
	for _, n := range l {
		d.GCD(nil, nil, d, new(big.Int).Abs(big.NewInt(int64(n))))
	}
	return int(d.Int64())
}

// P3.4: a factor times z + 1 is z - 1, and the share is the square of its absolute value, both in lowest terms.
func TestFactorByProducts(t *testing.T) {
	r := seeded()
	for i := range 3000 {
		a, b := from(r, 0, 1000), from(r, -1000, 1000)
		if i%2 == 0 {
			a, b = from(r, 0, 12), from(r, -12, 12)
		}
		z := complex(float64(a), float64(b))
		f, n, e := air.Factor(z)
		is(t, "error of Factor", e, api.OK)
		is(t, fmt.Sprint("the real part of ", z), f.Re*(a+1)-f.Im*b, n*(a-1))
		is(t, fmt.Sprint("the imaginary part of ", z), f.Re*b+f.Im*(a+1), n*b)
		is(t, fmt.Sprint("lowest terms of ", z), n > 0 && common(f.Re, f.Im, n) == 1, true)
		s, e := air.Share(z)
		is(t, "error of Share", e, api.OK)
		is(t, fmt.Sprint("the share of ", z), (f.Re*f.Re+f.Im*f.Im)*s.Den, s.Num*n*n)
		is(t, fmt.Sprint("lowest terms of the share of ", z), s.Den > 0 && common(s.Num, s.Den) == 1, true)
	}
}

// P3.4: transmittances of paths by the ground.
func TestEchoed(t *testing.T) {
	for i, x := range []struct {
		a []air.Layer
		p air.Path
		l []api.Interval
		e api.Errno
	}{
		{two(), path(at(0, 0, 0), at(300, 400, 0)), list(590, 776), api.OK}, {two(), path(at(0, 0, 0), at(0, 0, 150)), list(720, 950), api.OK},
		{two(), path(at(0, 0, 0), at(1, 1, 0)), list(900, 1000), api.OK}, {two(), path(at(0, 0, 120), at(200, 0, 120)), list(583, 903), api.OK},
		{two(), path(at(0, 0, 50), at(0, 0, 60)), list(810, 950), api.OK}, {two(), path(at(0, 0, 200), at(0, 0, 0)), list(720, 760), api.OK},
		// Both ways lead through all of the first layer: 2 steps of it, and 3 of the last one.
		{two(), path(at(0, 0, 300), at(0, 0, 200)), list(414, 464), api.OK}, {two(), path(at(0, 0, 100), at(0, 0, 50)), list(810, 950), api.OK},
		// On the ground all of it lies in the first layer, as at the height 1, where it is a bit longer.
		{two(), path(at(0, 0, 0), at(1000, 0, 0)), list(347, 603), api.OK}, {two(), path(at(0, 0, 1), at(1000, 0, 1)), list(312, 603), api.OK},
		{two(), path(at(-10000, -10000, 10000), at(10000, 10000, 10000)), list(0, 4), api.OK},
		{two(), badPath(), nil, api.ErrZero}, {two(), path(at(0, 0, 10001), at(0, 0, 0)), nil, api.ErrRange},
		{badAir(), badPath(), nil, api.ErrOrder}, {nil, step(), nil, api.ErrEmpty},
	} {
		l, e := air.Echoed(x.a, x.p)
		are(t, fmt.Sprint("Echoed ", i), l, x.l)
		is(t, fmt.Sprint("error of Echoed ", i), e, x.e)
	}
}

// echoSteps returns the steps of the path by the ground in each layer, as roots are rounded by trying.
func echoSteps(a []air.Layer, p air.Path) []api.Interval {
	sum := p.From.Z + p.To.Z
	parts := partsOf(a, 0, p.From.Z)
	for i, n := range partsOf(a, 0, p.To.Z) {
		parts[i] += n
	}
	square := squared(p, sum)
	if sum == 0 {
		sum, parts[0] = 1, 1
	}
	steps := make([]api.Interval, len(a))
	for i, part := range parts {
		near := int(math.Sqrt(float64(square)) * float64(part) / float64(100*sum))
		for n := max(near-2, 0); n <= near+2; n++ {
			for _, x := range list(n, n, n, n+1) {
				if around(x, square, part, 100*sum) {
					steps[i] = x
				}
			}
		}
	}
	return steps
}

// P3.4: transmittances by the ground, and totals, follow from their definitions.
func TestTotalByDefinition(t *testing.T) {
	r := seeded()
	for i := range 2000 {
		a, p := someAir(r, 8, 30), somePath(r, 300, 200)
		if i%4 == 0 {
			a, p = someAir(r, 8, 2000), somePath(r, 2000, 10000)
		}
		echoed, e := air.Echoed(a, p)
		are(t, fmt.Sprint("Echoed of ", a, p), echoed, after(a, echoSteps(a, p)))
		is(t, "error of Echoed", e, api.OK)
		z := complex(float64(from(r, 0, 1000)), float64(from(r, -1000, 1000)))
		energies := make([]int, len(a[0].Pass))
		for i := range energies {
			energies[i] = from(r, 0, air.MaxSource)
			if r.Intn(2) == 0 {
				energies[i] = from(r, 0, 5000)
			}
		}
		direct, _ := air.Arrived(a, p, energies)
		share, _ := air.Share(z)
		want := make([]api.Interval, len(energies))
		for i, x := range direct {
			scaled := func(pass int) (int, bool) {
				n := new(big.Int).Mul(big.NewInt(int64(energies[i]*pass)), big.NewInt(int64(share.Num)))
				q, rest := n.QuoRem(n, big.NewInt(int64(1000*share.Den)), new(big.Int))
				return int(q.Int64()), rest.Sign() != 0
			}
			low, _ := scaled(echoed[i].Low)
			high, more := scaled(echoed[i].High)
			if more {
				high++
			}
			want[i] = of(x.Low+low, x.High+high)
		}
		l, e := air.Total(a, p, z, energies)
		are(t, fmt.Sprint("Total of ", a, p, z, energies), l, want)
		is(t, "error of Total", e, api.OK)
	}
}

// P3.4: what arrives in total, and its errors from left to right.
func TestTotal(t *testing.T) {
	nan := complex(0, math.NaN())
	for i, x := range []struct {
		a        []air.Layer
		p        air.Path
		z        complex128
		energies []int
		l        []api.Interval
		e        api.Errno
	}{
		{two(), step(), 1i, []int{1000}, list(1800, 1900), api.OK}, {two(), step(), 1, []int{1000}, list(900, 950), api.OK},
		{two(), step(), 3 + 4i, []int{1001}, list(1463, 1546), api.OK}, {two(), step(), 0, []int{0}, list(0, 0), api.OK},
		{two(), step(), 0, []int{air.MaxSource}, list(1800000000, 1900000000), api.OK},
		// The echo is rounded once: 900 of 1000 and 5 of 8 of 2 are 1.125, where two roundings would leave 0.
		{two(), step(), 3 + 4i, []int{2}, list(2, 4), api.OK},
		// The greatest numbers on the way: 1000000000 times 1000 times 1998001.
		{one(of(1000, 1000)), step(), 1000 + 1000i, []int{air.MaxSource}, list(1998001999, 1998002000), api.OK},
		{one(of(0, 1000), of(1000, 1000)), step(), 1 + 1i, []int{5, 7}, list(0, 6, 8, 9), api.OK},
		{two(), step(), 1, nil, nil, api.ErrShape}, {two(), step(), 1, []int{-1, -1}, nil, api.ErrShape},
		{two(), step(), 1, []int{-1}, nil, api.ErrRange}, {two(), step(), 1, []int{air.MaxSource + 1}, nil, api.ErrRange},
		{two(), step(), nan, nil, nil, api.ErrForm}, {two(), step(), -1, nil, nil, api.ErrRange},
		{two(), badPath(), nan, nil, nil, api.ErrZero}, {badAir(), badPath(), nan, nil, nil, api.ErrOrder}, {nil, step(), 1, nil, nil, api.ErrEmpty},
	} {
		l, e := air.Total(x.a, x.p, x.z, x.energies)
		are(t, fmt.Sprint("Total ", i), l, x.l)
		is(t, fmt.Sprint("error of Total ", i), e, x.e)
	}
}
