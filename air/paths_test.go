package air_test

import (
	"fmt"
	"math/big"
	"testing"

	"flyover/air"
	"flyover/api"
)

// squared returns the square of the length of a path with a difference of its heights.
func squared(p air.Path, rise int) int {
	x, y := p.To.X-p.From.X, p.To.Y-p.From.Y
	return x*x + y*y + rise*rise
}

// around reports whether an interval is that of the root of a square, times part, divided by whole.
func around(x api.Interval, square, part, whole int) bool {
	times := func(l ...int) *big.Int {
		n := big.NewInt(1)
		for _, x := range l {
			n.Mul(n, big.NewInt(int64(x)))
		}
		return n
	}
	true2 := times(square, part, part)
	side := func(n int) int { return times(n, n, whole, whole).Cmp(true2) }
	low := side(x.Low) <= 0 && side(x.Low+1) > 0
	return low && (x.High == x.Low && side(x.Low) == 0 || x.High == x.Low+1 && side(x.Low) != 0)
}

// partsOf returns how many of the heights from low on, before high, lie in each layer.
func partsOf(a []air.Layer, low, high int) []int {
	l := make([]int, len(a))
	for height := low; height < high; height++ {
		l[layerOf(a, height)]++
	}
	return l
}

// after returns the transmittance of each band after the steps in all layers.
func after(a []air.Layer, steps []api.Interval) []api.Interval {
	l := make([]api.Interval, len(a[0].Pass))
	for band := range l {
		l[band] = of(1000, 1000)
		for i, x := range a {
			for range steps[i].High {
				l[band].Low = l[band].Low * x.Pass[band].Low / 1000
			}
			for range steps[i].Low {
				n := l[band].High * x.Pass[band].High
				l[band].High = n / 1000
				if n%1000 != 0 {
					l[band].High++
				}
			}
		}
	}
	return l
}

// P3.2: lengths, steps and transmittances of paths.
func TestPaths(t *testing.T) {
	const far, high = air.MaxFar, air.MaxHeight
	for i, x := range []struct {
		p      air.Path
		length api.Interval
		steps  []api.Interval
		passed []api.Interval
	}{
		{path(at(0, 0, 0), at(300, 400, 0)), of(500, 500), list(5, 5, 0, 0), list(590, 776)},
		{path(at(0, 0, 0), at(0, 0, 150)), of(150, 150), list(1, 1, 0, 1), list(720, 950)},
		{path(at(0, 0, 0), at(1, 0, 0)), of(1, 1), list(0, 1, 0, 0), list(900, 1000)},
		{path(at(0, 0, 0), at(1, 1, 1)), of(1, 2), list(0, 1, 0, 0), list(900, 1000)},
		{path(at(0, 0, 100), at(200, 0, 100)), of(200, 200), list(0, 0, 2, 2), list(640, 640)},
		{path(at(0, 0, 99), at(200, 0, 99)), of(200, 200), list(2, 2, 0, 0), list(810, 903)},
		{path(at(0, 0, 99), at(0, 0, 101)), of(2, 2), list(0, 1, 0, 1), list(720, 1000)},
		// Heights up to the bottom of a layer are not in it, and those from it on not in the one below.
		{path(at(0, 0, 0), at(0, 0, 100)), of(100, 100), list(1, 1, 0, 0), list(900, 950)},
		{path(at(0, 0, 200), at(0, 0, 100)), of(100, 100), list(0, 0, 1, 1), list(800, 800)},
		// The last layer has no top.
		{path(at(0, 0, 1100), at(0, 0, 0)), of(1100, 1100), list(1, 1, 10, 10), list(96, 103)},
		// The length is divided as its heights are: 125 and 375.
		{path(at(0, 300, 0), at(0, 0, 400)), of(500, 500), list(1, 2, 3, 4), list(331, 487)},
		{path(at(-far, -far, 0), at(far, far, 0)), of(28284, 28285), list(282, 283, 0, 0), list(0, 19)},
		{path(at(-far, -far, high), at(far, far, 0)), of(30000, 30000), list(3, 3, 297, 297), list(0, 4)},
	} {
		n, e := air.Length(x.p)
		is(t, fmt.Sprint("Length ", i), n, x.length)
		is(t, "error of Length", e, api.OK)
		l, e := air.Steps(two(), x.p)
		are(t, fmt.Sprint("Steps ", i), l, x.steps)
		is(t, "error of Steps", e, api.OK)
		l, e = air.Passed(two(), x.p)
		are(t, fmt.Sprint("Passed ", i), l, x.passed)
		is(t, "error of Passed", e, api.OK)
	}
}

// P3.2: lengths, steps and transmittances follow from their definitions.
func TestPathsByDefinition(t *testing.T) {
	r := seeded()
	for i := range 3000 {
		a, p := someAir(r, 8, 30), somePath(r, 900, 200)
		if i%3 == 0 {
			a, p = someAir(r, 8, 2000), somePath(r, 10000, 10000)
		}
		low, high := min(p.From.Z, p.To.Z), max(p.From.Z, p.To.Z)
		parts, whole := partsOf(a, low, high), high-low
		if whole == 0 {
			parts, whole = partsOf(a, low, low+1), 1
		}
		n, e := air.Length(p)
		is(t, fmt.Sprint("Length of ", p, " is ", n), around(n, squared(p, high-low), 1, 1), true)
		is(t, "error of Length", e, api.OK)
		steps, e := air.Steps(a, p)
		is(t, "error of Steps", e, api.OK)
		is(t, "as many as layers", len(steps), len(a))
		for i, x := range steps {
			is(t, fmt.Sprint("Steps of ", p, " in ", thicknesses(a), " are ", steps), around(x, squared(p, high-low), parts[i], 100*whole), true)
		}
		l, e := air.Passed(a, p)
		are(t, fmt.Sprint("Passed of ", a, p), l, after(a, steps))
		is(t, "error of Passed", e, api.OK)
	}
}

// P3.2: transmittances are rounded at each step, and one layer after the other.
func TestPassedRounds(t *testing.T) {
	for i, x := range []struct {
		a    []air.Layer
		p    air.Path
		want []api.Interval
	}{
		{one(of(1, 1), of(0, 0), of(0, 1000), of(1000, 1000), of(999, 999)), path(at(0, 0, 0), at(300, 0, 0)), list(0, 1, 0, 0, 0, 1000, 1000, 1000, 997, 999)},
		{one(of(500, 501), of(500, 501)), path(at(0, 0, 0), at(400, 0, 0)), list(62, 64, 62, 64)},
		{one(of(0, 0)), path(at(0, 0, 0), at(99, 0, 0)), list(0, 1000)},
		// The first layer comes first, also on the way down: 15, 13, 11 (and 15, 14, 13), where 900, 810, 12 would be 12.
		{[]air.Layer{{Thickness: 100, Speed: 1, Pass: list(15, 15)}, {Thickness: 100, Speed: 1, Pass: list(900, 900)}}, path(at(0, 0, 0), at(0, 0, 300)), list(11, 13)},
		{[]air.Layer{{Thickness: 100, Speed: 1, Pass: list(15, 15)}, {Thickness: 100, Speed: 1, Pass: list(900, 900)}}, path(at(0, 0, 300), at(0, 0, 0)), list(11, 13)},
	} {
		l, e := air.Passed(x.a, x.p)
		are(t, fmt.Sprint("Passed ", i), l, x.want)
		is(t, "error", e, api.OK)
	}
}

// P3.2: what arrives of energies.
func TestArrived(t *testing.T) {
	wide := one(of(0, 1000), of(1, 999), of(333, 334))
	for i, x := range []struct {
		a        []air.Layer
		energies []int
		l        []api.Interval
		e        api.Errno
	}{
		{two(), []int{1001}, list(900, 951), api.OK}, {two(), []int{1000}, list(900, 950), api.OK}, {two(), []int{0}, list(0, 0), api.OK},
		{two(), []int{1}, list(0, 1), api.OK}, {two(), []int{api.MaxEnergy}, list(9000000000000, 9500000000000), api.OK},
		{wide, []int{7, 7, 10}, list(0, 7, 0, 7, 3, 4), api.OK}, {wide, []int{5, 1000, 1000}, list(0, 5, 1, 999, 333, 334), api.OK},
		{wide, []int{api.MaxEnergy, api.MaxEnergy, 0}, list(0, api.MaxEnergy, 10000000000, 9990000000000, 0, 0), api.OK},
		{two(), nil, nil, api.ErrShape}, {two(), []int{-1, -1}, nil, api.ErrShape}, {wide, []int{1, 1}, nil, api.ErrShape},
		{two(), []int{-1}, nil, api.ErrRange}, {two(), []int{api.MaxEnergy + 1}, nil, api.ErrRange}, {wide, []int{1, 1, -1}, nil, api.ErrRange},
	} {
		l, e := air.Arrived(x.a, step(), x.energies)
		are(t, fmt.Sprint("Arrived ", i), l, x.l)
		is(t, fmt.Sprint("error of Arrived ", i), e, x.e)
	}
}

// P3.2: what can have been emitted.
func TestEmitted(t *testing.T) {
	const most = api.MaxEnergy
	deaf := one(of(0, 0))
	for i, x := range []struct {
		a     []air.Layer
		heard []api.Interval
		l     []api.Interval
		e     api.Errno
	}{
		{two(), list(900, 900), list(948, 1000), api.OK}, {two(), list(0, 0), list(0, 0), api.OK}, {two(), list(900, 951), list(948, 1056), api.OK},
		{two(), list(1, 1), nil, api.ErrInfeasible}, {two(), list(1, 2), list(2, 2), api.OK},
		{two(), list(9500000000000, 9600000000000), list(most, most), api.OK}, {two(), list(9500000000001, 9600000000000), nil, api.ErrInfeasible},
		{two(), list(0, most), list(0, most), api.OK}, {two(), list(most, most), nil, api.ErrInfeasible},
		{deaf, list(0, 5), list(0, most), api.OK}, {deaf, list(0, 0), list(0, most), api.OK}, {deaf, list(1, 5), nil, api.ErrInfeasible},
		{one(of(0, 500)), list(3, 3), list(6, most), api.OK}, {one(of(0, 1)), list(10000000000, most), list(most, most), api.OK},
		{one(of(0, 1)), list(10000000001, most), nil, api.ErrInfeasible}, {one(of(1000, 1000)), list(7, 9), list(7, 9), api.OK},
		{one(of(1000, 1000)), list(most, most), list(most, most), api.OK}, {one(of(1, 1)), list(3, 4), list(3000, 4000), api.OK},
		{one(of(600, 600)), list(1, 1), nil, api.ErrInfeasible}, {one(of(600, 600)), list(3, 3), list(5, 5), api.OK},
		{one(of(1, 1), of(600, 600)), list(1, 1, 2, 2), nil, api.ErrInfeasible}, {one(of(600, 600), of(1, 1)), list(2, 2, 1, 1), nil, api.ErrInfeasible},
		{one(of(1, 1), of(500, 1000)), list(1, 1, 2, 2), list(1000, 1000, 2, 4), api.OK},
		{two(), nil, nil, api.ErrShape}, {two(), list(2, 1, 2, 1), nil, api.ErrShape}, {deaf, list(), nil, api.ErrShape},
		{two(), list(-1, -2), nil, api.ErrRange}, {two(), list(most+1, 0), nil, api.ErrRange},
		{two(), list(0, -1), nil, api.ErrRange}, {two(), list(0, most+1), nil, api.ErrRange}, {two(), list(2, 1), nil, api.ErrOrder},
		// All of what is heard is examined before it is explained, and its first error decides.
		{one(of(0, 0), of(0, 0)), list(1, 1, -1, 0), nil, api.ErrRange}, {one(of(0, 0), of(0, 0)), list(2, 1, -1, 0), nil, api.ErrOrder},
	} {
		l, e := air.Emitted(x.a, step(), x.heard)
		are(t, fmt.Sprint("Emitted ", i), l, x.l)
		is(t, fmt.Sprint("error of Emitted ", i), e, x.e)
	}
}

// explains reports whether an energy explains what is heard.
func explains(energy int, pass, heard api.Interval) bool {
	return energy*pass.Low <= heard.High*1000 && energy*pass.High >= heard.Low*1000
}

// P3.2: what can have been emitted, by trying energies.
func TestEmittedByTrying(t *testing.T) {
	r := seeded()
	some := 0
	for range 400 {
		pass, heard := someInterval(r, 1, 1000), someInterval(r, 0, 20)
		if r.Intn(2) == 0 {
			pass.High, heard.High = pass.Low, heard.Low
		}
		least, greatest := -1, -1
		for energy := range 21000 {
			if explains(energy, pass, heard) {
				greatest = energy
				if least < 0 {
					least = energy
				}
			}
		}
		l, e := air.Emitted(one(pass), step(), []api.Interval{heard})
		if least < 0 {
			is(t, fmt.Sprint("error of Emitted of ", pass, heard), e, api.ErrInfeasible)
			continue
		}
		some++
		is(t, fmt.Sprint("error of Emitted of ", pass, heard), e, api.OK)
		are(t, fmt.Sprint("Emitted of ", pass, heard), l, list(least, greatest))
	}
	is(t, "some are explained, and some are not", some > 50 && some < 350, true)
}

// P3.2: the errors of airs and paths, from left to right.
func TestPathErrors(t *testing.T) {
	for i, x := range []struct {
		a []air.Layer
		p air.Path
		e api.Errno
	}{
		{badAir(), badPath(), api.ErrOrder}, {nil, step(), api.ErrEmpty}, {make([]air.Layer, 9), badPath(), api.ErrMany},
		{two(), badPath(), api.ErrZero}, {two(), path(at(0, 0, -1), at(0, 0, 0)), api.ErrRange},
	} {
		steps, e := air.Steps(x.a, x.p)
		are(t, "Steps beside the error", steps, nil)
		is(t, fmt.Sprint("error of Steps ", i), e, x.e)
		l, e := air.Passed(x.a, x.p)
		are(t, "Passed beside the error", l, nil)
		is(t, fmt.Sprint("error of Passed ", i), e, x.e)
		l, e = air.Arrived(x.a, x.p, nil)
		are(t, "Arrived beside the error", l, nil)
		is(t, fmt.Sprint("error of Arrived ", i), e, x.e)
		l, e = air.Emitted(x.a, x.p, nil)
		are(t, "Emitted beside the error", l, nil)
		is(t, fmt.Sprint("error of Emitted ", i), e, x.e)
	}
	n, e := air.Length(badPath())
	is(t, "Length beside the error", n, of(0, 0))
	is(t, "error of Length", e, api.ErrZero)
	_, e = air.Length(path(at(0, 0, 0), at(10001, 0, 0)))
	is(t, "error of Length of a far path", e, api.ErrRange)
}
