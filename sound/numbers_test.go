package sound_test

import (
	"fmt"
	"math"
	"slices"
	"strings"
	"testing"

	"flyover/api"
	"flyover/sound"
)

// P1.1: names.
func TestIsName(t *testing.T) {
	letters := "ABCDEFGHIJKLMNOPQRSTUVWXYZabcdefghijklmnopqrstuvwxyz"
	later := letters + "0123456789_"
	for b := range 256 {
		c := string([]byte{byte(b)})
		is(t, fmt.Sprintf("first byte %d", b), sound.IsName(c), strings.Contains(letters, c))
		is(t, fmt.Sprintf("second byte %d", b), sound.IsName("a"+c), strings.Contains(later, c))
	}
	for _, x := range []struct {
		s  string
		is bool
	}{
		{"", false},
		{strings.Repeat("x", 24), true},
		{strings.Repeat("x", 25), false},
		{"a\xc3\xa9", false}, // a letter of two bytes
		{"\u0410", false},    // one that looks like A
		{"a\x00", false},
		{"a b", false},
		{"a\n", false},
		{"Run_9", true},
	} {
		is(t, x.s, sound.IsName(x.s), x.is)
	}
}

// permutation is the definition, step by step.
func permutation(number, n int) []int {
	l := below(n)
	x := uint64(number)
	for i := n - 1; i >= 1; i-- {
		x = (69621*x + 7) % 2147483647
		other := x % uint64(i+1)
		element := l[i]
		l[i] = l[other]
		l[other] = element
	}
	return l
}

// P1.1: permutations.
func TestDraw(t *testing.T) {
	for _, x := range []struct {
		number, n int
		l         []int
	}{
		{0, 0, nil},
		{7, 1, []int{0}},
		{0, 2, []int{0, 1}},
		{1, 2, []int{1, 0}},
		{0, 3, []int{2, 0, 1}},
	} {
		l, e := sound.Draw(x.number, x.n)
		is(t, "error", e, api.OK)
		are(t, fmt.Sprint("Draw ", x.number, x.n), l, x.l)
	}
	for _, number := range []int{0, 1, 2, 12345, 2147483, api.MaxNumber} {
		for _, n := range []int{2, 5, 17, 255, 256} {
			l, e := sound.Draw(number, n)
			is(t, "error", e, api.OK)
			are(t, fmt.Sprint("Draw ", number, n), l, permutation(number, n))
			slices.Sort(l)
			are(t, "its elements", l, below(n))
		}
	}
	for _, x := range [][2]int{{-1, 2}, {api.MaxNumber + 1, 2}, {0, -1}, {0, 257}, {-1, 257}, {math.MinInt, math.MaxInt}} {
		l, e := sound.Draw(x[0], x[1])
		is(t, fmt.Sprint("Draw ", x), e, api.ErrRange)
		is(t, "elements beside the error", len(l), 0)
	}
}

// P1.1: ratios.
func TestCheckRatio(t *testing.T) {
	for _, x := range []struct {
		num, den int
		e        api.Errno
	}{
		{0, 1, api.OK},
		{1, 1, api.OK},
		{-3, 4, api.OK},
		{-1, 1, api.OK},
		{999999999, 999999998, api.OK},
		{-999999999, 1, api.OK},
		{1, 999999999, api.OK},
		{0, 2, api.ErrForm},
		{2, 4, api.ErrForm},
		{-2, 4, api.ErrForm},
		{5, 5, api.ErrForm},
		{-5, 5, api.ErrForm},
		{999999999, 3, api.ErrForm},
		{1, 0, api.ErrRange},
		{0, 0, api.ErrRange},
		{1, -1, api.ErrRange},
		{2, -4, api.ErrRange},
		{1000000000, 1, api.ErrRange},
		{-1000000000, 1, api.ErrRange},
		{1, 1000000000, api.ErrRange},
		{1000000000, 10, api.ErrRange}, // not in lowest terms, but that is named last
		{math.MinInt, math.MinInt, api.ErrRange},
		{math.MaxInt, math.MaxInt, api.ErrRange},
	} {
		is(t, fmt.Sprint("CheckRatio ", x.num, x.den), sound.CheckRatio(api.Ratio{Num: x.num, Den: x.den}), x.e)
	}
}

// P1.1: ratios, by all divisors.
func TestRatiosInLowestTerms(t *testing.T) {
	for num := -30; num <= 30; num++ {
		for den := 1; den <= 30; den++ {
			want := api.OK
			for d := 2; d <= den; d++ {
				if num%d == 0 && den%d == 0 {
					want = api.ErrForm
				}
			}
			is(t, fmt.Sprint("CheckRatio ", num, den), sound.CheckRatio(api.Ratio{Num: num, Den: den}), want)
		}
	}
}

// P1.1: samples.
func TestCheckSample(t *testing.T) {
	for _, x := range []struct {
		x float32
		e api.Errno
	}{
		{0, api.OK},
		{minusZero(), api.OK},
		{0.0625, api.OK},
		{-0.0625, api.OK},
		{1024, api.OK},
		{-1024, api.OK},
		{1023.9375, api.OK},
		{0.03125, api.ErrRange},
		{0.1, api.ErrRange},
		{math.SmallestNonzeroFloat32, api.ErrRange},
		{math.Nextafter32(1024, 2000), api.ErrRange},
		{math.Nextafter32(-1024, -2000), api.ErrRange},
		{1024.0625, api.ErrRange},
		{-1025, api.ErrRange},
		{math.MaxFloat32, api.ErrRange},
		{-math.MaxFloat32, api.ErrRange},
		{nan, api.ErrForm},
		{inf, api.ErrForm},
		{-inf, api.ErrForm},
	} {
		is(t, fmt.Sprint("CheckSample ", x.x), sound.CheckSample(x.x), x.e)
	}
	for n := -16384; n <= 16384; n++ {
		is(t, fmt.Sprint("the sample of ", n), sound.CheckSample(sample(n)), api.OK)
	}
	is(t, "no samples", sound.CheckSamples(nil), api.OK)
	is(t, "4096 samples", sound.CheckSamples(make([]float32, 4096)), api.OK)
	is(t, "4097 samples", sound.CheckSamples(make([]float32, 4097)), api.ErrMany)
	is(t, "4097 samples, one of them NaN", sound.CheckSamples(spoilt(4097, 0, nan)), api.ErrMany)
	is(t, "the last sample", sound.CheckSamples(spoilt(4096, 4095, inf)), api.ErrForm)
	is(t, "first out of range", sound.CheckSamples([]float32{1, 0.01, nan}), api.ErrRange)
	is(t, "first NaN", sound.CheckSamples([]float32{1, nan, 0.01}), api.ErrForm)
}

// panelOf is the definition of the transform, in integers.
func panelOf(l [4]float32) [4]complex64 {
	powers := [4][2]int{{1, 0}, {0, -1}, {-1, 0}, {0, 1}}
	var p [4]complex64
	for k := range 4 {
		re, im := 0, 0
		for n := range 4 {
			x := int(16 * l[n])
			re += x * powers[k*n%4][0]
			im += x * powers[k*n%4][1]
		}
		p[k] = complex(float32(re)/16, float32(im)/16)
	}
	return p
}

// P1.1: transforms of four.
func TestFour(t *testing.T) {
	p, e := sound.Four([4]float32{1, 2, 3, 4})
	is(t, "error", e, api.OK)
	is(t, "Four", p, [4]complex64{10, -2 + 2i, -2, -2 - 2i})
	r := seeded()
	most := [4]float32{1024, 1024, 1024, 1024}
	for range 500 {
		l := [4]float32(samples(r, 4))
		for _, x := range [][4]float32{l, most, {}, {minusZero(), 0, minusZero(), 0}} {
			p, e := sound.Four(x)
			is(t, "error", e, api.OK)
			is(t, fmt.Sprint("Four ", x), p, panelOf(x))
			back, e := sound.Unfour(p)
			is(t, "error back", e, api.OK)
			is(t, "Unfour", back, x)
		}
	}
	for _, x := range []struct {
		l [4]float32
		e api.Errno
	}{
		{[4]float32{0, 0, 0, nan}, api.ErrForm},
		{[4]float32{0, 0.01, 0, nan}, api.ErrRange},
		{[4]float32{inf, 0.01, 0, 0}, api.ErrForm},
		{[4]float32{0, 0, -1025, 0}, api.ErrRange},
	} {
		p, e := sound.Four(x.l)
		is(t, fmt.Sprint("Four ", x.l), e, x.e)
		is(t, "panel beside the error", p, [4]complex64{})
	}
}

// badPanels are such as have an error of their own.
var badPanels = []struct {
	p [4]complex64
	e api.Errno
}{
	{[4]complex64{complex(nan, 0)}, api.ErrForm},
	{[4]complex64{0, 0, 0, complex(0, nan)}, api.ErrForm},
	{[4]complex64{0, complex(0, -inf)}, api.ErrForm},
	{[4]complex64{4097, 0, 0, complex(inf, 0)}, api.ErrForm}, // ErrForm is named before ErrRange
	{[4]complex64{0, 0.03125}, api.ErrRange},
	{[4]complex64{0, 0, 0.01i}, api.ErrRange},
	{[4]complex64{4096.0625}, api.ErrRange},
	{[4]complex64{0, -4096.0625}, api.ErrRange},
	{[4]complex64{0, 0, 4097i}, api.ErrRange},
	{[4]complex64{0, 0, 0, -4097i}, api.ErrRange},
	{[4]complex64{math.MaxFloat32}, api.ErrRange},
}

// P1.1: samples of panels.
func TestUnfour(t *testing.T) {
	for _, x := range badPanels {
		l, e := sound.Unfour(x.p)
		is(t, fmt.Sprint("Unfour ", x.p), e, x.e)
		is(t, "samples beside the error", l, [4]float32{})
	}
	for _, p := range [][4]complex64{
		{10, -1 + 2i, -2, -2 - 2i},
		{1i},
		{0, 1i, 0, 1i},
		{0, 1, 0, 2},
		{0.0625},                 // a quarter of a sixteenth
		{1, 1, 1, 1.0625},        // likewise
		{4096, 4096, 4096, 4096}, // 4096 is no sample
		{4096i, 4096, 4096, 4096},
	} {
		l, e := sound.Unfour(p)
		is(t, fmt.Sprint("Unfour ", p), e, api.ErrForm)
		is(t, "samples beside the error", l, [4]float32{})
	}
	for _, x := range []struct {
		p [4]complex64
		l [4]float32
	}{
		{[4]complex64{4096}, [4]float32{1024, 1024, 1024, 1024}},
		{[4]complex64{0.25}, [4]float32{0.0625, 0.0625, 0.0625, 0.0625}},
		{[4]complex64{0, 4i, 0, -4i}, [4]float32{0, -2, 0, 2}},
		{[4]complex64{complex(minusZero(), minusZero()), complex(0, minusZero())}, [4]float32{}},
	} {
		l, e := sound.Unfour(x.p)
		is(t, "error", e, api.OK)
		is(t, fmt.Sprint("Unfour ", x.p), l, x.l)
	}
}

// P1.1: cross-spectra.
func TestCross(t *testing.T) {
	c, e := sound.Cross([4]complex64{10, -2 + 2i, -2, -2 - 2i}, [4]complex64{1, 1, 1, 1})
	is(t, "error", e, api.OK)
	is(t, "Cross", c, [4]api.Gauss{{Re: 2560}, {Re: -512, Im: 512}, {Re: -512}, {Re: -512, Im: -512}})
	c, e = sound.Cross([4]complex64{1, 1i, 0.0625, 4096 + 4096i}, [4]complex64{1i, 1i, -0.0625i, 4096 - 4096i})
	is(t, "error", e, api.OK)
	is(t, "Cross of i", c, [4]api.Gauss{{Im: -256}, {Re: 256}, {Im: 1}, {Im: 8589934592}})
	// The least bit of a great product.
	c, e = sound.Cross([4]complex64{4095.9375 + 4096i}, [4]complex64{4095.9375 + 4095.9375i})
	is(t, "error", e, api.OK)
	is(t, "exact", c, [4]api.Gauss{{Re: 65535*65535 + 65536*65535, Im: 65536*65535 - 65535*65535}})
	// A panel need not be the transform of samples here.
	_, e = sound.Cross([4]complex64{1i}, [4]complex64{0.0625})
	is(t, "of no samples", e, api.OK)
	for _, x := range badPanels {
		c, e := sound.Cross(x.p, [4]complex64{})
		is(t, fmt.Sprint("Cross of ", x.p), e, x.e)
		is(t, "beside the error", c, [4]api.Gauss{})
		_, e = sound.Cross([4]complex64{}, x.p)
		is(t, fmt.Sprint("Cross with ", x.p), e, x.e)
	}
	_, e = sound.Cross([4]complex64{4097}, [4]complex64{complex(nan, 0)})
	is(t, "the first panel decides", e, api.ErrRange)
}
