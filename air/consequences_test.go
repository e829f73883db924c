package air_test

import (
	"fmt"
	"math/rand"
	"slices"
	"testing"

	"flyover/air"
	"flyover/api"
)

// P3.5, P4: a path and the path back have the same length, steps and transmittance, and with the opposite winds they are bent in the same way.
func TestPathsBack(t *testing.T) {
	r := seeded()
	bent := 0
	for range 2000 {
		a, p := someAir(r, 8, 100), somePath(r, 900, 500)
		n, e := air.Length(p)
		is(t, "error", e, api.OK)
		m, _ := air.Length(back(p))
		is(t, fmt.Sprint("Length back of ", p), m, n)
		l, _ := air.Steps(a, p)
		k, _ := air.Steps(a, back(p))
		are(t, fmt.Sprint("Steps back of ", p), k, l)
		l, _ = air.Passed(a, p)
		k, _ = air.Passed(a, back(p))
		are(t, fmt.Sprint("Passed back of ", p), k, l)
		l, _ = air.Echoed(a, p)
		k, _ = air.Echoed(a, back(p))
		are(t, fmt.Sprint("Echoed back of ", p), k, l)
		opposite, e := air.Reversed(a)
		is(t, "error of Reversed", e, api.OK)
		way, _ := air.Bent(a, p)
		again, _ := air.Bent(opposite, back(p))
		is(t, fmt.Sprint("Bent back of ", a, p), again, way)
		if way != 0 {
			bent++
		}
	}
	is(t, "many are bent", bent > 200, true)
}

// sums returns the sums of the Low and of the High of intervals.
func sums(l []api.Interval) api.Interval {
	var sum api.Interval
	for _, x := range l {
		sum.Low += x.Low
		sum.High += x.High
	}
	return sum
}

// P3.5: a layer that is split changes both sums of the steps by at most 1, and no speed at a height.
func TestSplitsKeep(t *testing.T) {
	r := seeded()
	for range 2000 {
		a, p, height := someAir(r, 7, 100), somePath(r, 900, 500), from(r, 1, 500)
		b, e := air.Split(a, height)
		if e == api.ErrTwice {
			continue
		}
		is(t, "error of Split", e, api.OK)
		is(t, "CheckAir", air.CheckAir(b), api.OK)
		is(t, "a layer more", len(b), len(a)+1)
		k, _ := air.Steps(a, p)
		l, _ := air.Steps(b, p)
		x, y := sums(k), sums(l)
		low, high := y.Low-x.Low, y.High-x.High
		is(t, fmt.Sprint("steps of ", thicknesses(a), " split at ", height, ": ", k, l), low >= -1 && low <= 1 && high >= -1 && high <= 1, true)
		for z := range 700 {
			i, _ := air.LayerAt(a, z)
			j, _ := air.LayerAt(b, z)
			is(t, fmt.Sprint("the speed at ", z), b[j].Speed == a[i].Speed && b[j].Wind == a[i].Wind && slices.Equal(b[j].Pass, a[i].Pass), true)
		}
	}
}

// narrower returns an air whose transmittances lie in those of another one.
func narrower(r *rand.Rand, a []air.Layer) []air.Layer {
	var b []air.Layer
	for _, x := range a {
		pass := x.Pass
		x.Pass = nil
		for _, y := range pass {
			x.Pass = append(x.Pass, someInterval(r, y.Low, y.High))
		}
		b = append(b, x)
	}
	return b
}

// P3.5: with a narrower air a path's transmittance is no wider; none is above Whole.
func TestNarrowerAirs(t *testing.T) {
	r := seeded()
	for range 1000 {
		a, p := someAir(r, 8, 100), somePath(r, 900, 500)
		wide, e := air.Passed(a, p)
		is(t, "error", e, api.OK)
		narrow, e := air.Passed(narrower(r, a), p)
		is(t, "error", e, api.OK)
		byGround, _ := air.Echoed(a, p)
		for i, x := range narrow {
			y, z := wide[i], byGround[i]
			is(t, fmt.Sprint(x, " in ", y), y.Low <= x.Low && x.Low <= x.High && x.High <= y.High, true)
			is(t, fmt.Sprint(y, " and ", z, " are transmittances"), 0 <= y.Low && y.High <= 1000 && 0 <= z.Low && z.Low <= z.High && z.High <= 1000, true)
		}
	}
}

// P3.5, P4: what arrives is no greater than what was emitted, and is explained by it, and by no energy just outside of what can have been emitted.
func TestEnergiesExplain(t *testing.T) {
	r := seeded()
	for range 2000 {
		a, p := someAir(r, 4, 100), somePath(r, 900, 500)
		pass, _ := air.Passed(a, p)
		energies := make([]int, len(pass))
		for i := range energies {
			energies[i] = from(r, 0, []int{20, 5000, api.MaxEnergy}[r.Intn(3)])
		}
		heard, e := air.Arrived(a, p, energies)
		is(t, "error of Arrived", e, api.OK)
		emitted, e := air.Emitted(a, p, heard)
		is(t, "error of Emitted", e, api.OK)
		for i, n := range energies {
			x, y := heard[i], emitted[i]
			is(t, fmt.Sprint(x, " arrives of ", n), x.Low <= x.High && x.High <= n, true)
			is(t, fmt.Sprint(n, " is in ", y), y.Low <= n && n <= y.High, true)
			is(t, fmt.Sprint(y, " explains ", x), explains(y.Low, pass[i], x) && explains(y.High, pass[i], x), true)
			outside := y.Low > 0 && explains(y.Low-1, pass[i], x) || y.High < api.MaxEnergy && explains(y.High+1, pass[i], x)
			is(t, fmt.Sprint("what is just outside of ", y, " explains ", x), outside, false)
		}
	}
}

// P3.5: a share is at most 1, and 1 exactly if the real part of the impedance is 0.
func TestSharesAreParts(t *testing.T) {
	r := seeded()
	for range 2000 {
		a, b := from(r, 0, 1000), from(r, -1000, 1000)
		if r.Intn(3) == 0 {
			a = 0
		}
		s, e := air.Share(complex(float64(a), float64(b)))
		is(t, "error", e, api.OK)
		is(t, fmt.Sprint(s, " is a part"), 0 <= s.Num && s.Num <= s.Den, true)
		is(t, fmt.Sprint(s, " is all, of ", a), s == api.Ratio{Num: 1, Den: 1}, a == 0)
	}
}

// P3.5: at least as much arrives in total as directly.
func TestTotalsAreNoLess(t *testing.T) {
	r := seeded()
	for range 1000 {
		a, p := someAir(r, 8, 100), somePath(r, 900, 500)
		energies := make([]int, len(a[0].Pass))
		for i := range energies {
			energies[i] = from(r, 0, air.MaxSource)
		}
		direct, _ := air.Arrived(a, p, energies)
		total, e := air.Total(a, p, complex(float64(from(r, 0, 9)), float64(from(r, -9, 9))), energies)
		is(t, "error", e, api.OK)
		for i, x := range total {
			is(t, fmt.Sprint(x, " is no less than ", direct[i]), x.Low >= direct[i].Low && x.High >= direct[i].High && x.Low <= x.High, true)
		}
	}
}

// P3.5: airs are parsed as they were printed.
func TestAirsComeBack(t *testing.T) {
	r := seeded()
	for range 500 {
		a := someAir(r, 8, 2000)
		a[0].Wind = api.Point{X: from(r, -100, 100), Y: from(r, -100, 100)}
		s, e := air.Print(a)
		is(t, "error of Print", e, api.OK)
		b, i, e := air.Parse(s)
		areAirs(t, "Parse", b, a)
		is(t, "index", i, 0)
		is(t, "error of Parse", e, api.OK)
	}
}
