package air_test

import (
	"math/rand"
	"slices"
	"testing"

	"flyover/air"
	"flyover/api"
)

// is compares a result with the expected one.
func is[T comparable](t *testing.T, what string, got, want T) {
	t.Helper()
	if got != want {
		t.Errorf("%s: got %v, want %v", what, got, want)
	}
}

// are compares a list with the expected one; nil and empty lists are equal.
func are[T comparable](t *testing.T, what string, got, want []T) {
	t.Helper()
	if !slices.Equal(got, want) {
		t.Errorf("%s: got %v, want %v", what, got, want)
	}
}

// areAirs compares airs, in the same way.
func areAirs(t *testing.T, what string, got, want []air.Layer) {
	t.Helper()
	if !slices.EqualFunc(got, want, func(x, y air.Layer) bool {
		return x.Thickness == y.Thickness && x.Speed == y.Speed && x.Wind == y.Wind && slices.Equal(x.Pass, y.Pass)
	}) {
		t.Errorf("%s: got %v, want %v", what, got, want)
	}
}

// seeded returns numbers that are the same in each run.
func seeded() *rand.Rand { return rand.New(rand.NewSource(1)) }

// from returns an integer from low to high.
func from(r *rand.Rand, low, high int) int { return low + r.Intn(high-low+1) }

func of(low, high int) api.Interval { return api.Interval{Low: low, High: high} }

// list returns intervals, by pairs of ends.
func list(l ...int) []api.Interval {
	var out []api.Interval
	for i := 0; i+1 < len(l); i += 2 {
		out = append(out, of(l[i], l[i+1]))
	}
	return out
}

func at(x, y, z int) api.Vector { return api.Vector{X: x, Y: y, Z: z} }

func path(from, to api.Vector) air.Path { return air.Path{From: from, To: to} }

func back(p air.Path) air.Path { return path(p.To, p.From) }

// step is a path that has just one step in the first layer of A.
func step() air.Path { return path(at(0, 0, 0), at(100, 0, 0)) }

// badPath has the last of the errors of CheckPath, ErrZero.
func badPath() air.Path { return path(at(1, 2, 3), at(1, 2, 3)) }

// two returns the air A of the document's examples.
func two() []air.Layer {
	return []air.Layer{
		{Thickness: 100, Speed: 340, Pass: list(900, 950)},
		{Thickness: 50, Speed: 341, Wind: api.Point{X: 10}, Pass: list(800, 800)},
	}
}

// changed returns A with a change.
func changed(f func(a []air.Layer)) []air.Layer {
	a := two()
	f(a)
	return a
}

// badAir is an air with the last of the errors of CheckAir, ErrOrder.
func badAir() []air.Layer {
	return changed(func(a []air.Layer) { a[1].Pass[0] = of(2, 1) })
}

// one returns an air of one layer with these transmittances of its bands.
func one(pass ...api.Interval) []air.Layer {
	return []air.Layer{{Thickness: 1, Speed: 1, Pass: pass}}
}

// stack returns an air of layers with these thicknesses.
func stack(thicknesses ...int) []air.Layer {
	var a []air.Layer
	for i, n := range thicknesses {
		a = append(a, air.Layer{Thickness: n, Speed: 1 + i, Wind: api.Point{X: i, Y: -i}, Pass: list(i, 10*i)})
	}
	return a
}

// thicknesses returns those of the layers of an air.
func thicknesses(a []air.Layer) []int {
	var l []int
	for _, x := range a {
		l = append(l, x.Thickness)
	}
	return l
}

// someInterval returns an interval from low to high.
func someInterval(r *rand.Rand, low, high int) api.Interval {
	x, y := from(r, low, high), from(r, low, high)
	return of(min(x, y), max(x, y))
}

// someAir returns an air of up to so many layers, with thicknesses up to the given one.
func someAir(r *rand.Rand, layers, thickness int) []air.Layer {
	bands := from(r, 1, 8)
	var a []air.Layer
	for range from(r, 1, layers) {
		x := air.Layer{Thickness: from(r, 1, thickness), Speed: from(r, 330, 345), Wind: api.Point{X: from(r, -9, 9), Y: from(r, -9, 9)}}
		for range bands {
			x.Pass = append(x.Pass, someInterval(r, 900, 1000))
		}
		a = append(a, x)
	}
	return a
}

// somePath returns a path; often it is flat or upright.
func somePath(r *rand.Rand, far, height int) air.Path {
	for {
		p := path(at(from(r, -far, far), from(r, -far, far), from(r, 0, height)), at(from(r, -far, far), from(r, -far, far), from(r, 0, height)))
		switch r.Intn(6) {
		case 0:
			p.To.Z = p.From.Z
		case 1:
			p.To.X, p.To.Y = p.From.X, p.From.Y
		case 2:
			p.From.Z, p.To.Z = 0, 0
		}
		if p.From != p.To {
			return p
		}
	}
}

// layerOf finds the layer at a height by the thicknesses below it.
func layerOf(a []air.Layer, height int) int {
	for i := range len(a) - 1 {
		if height < a[i].Thickness {
			return i
		}
		height -= a[i].Thickness
	}
	return len(a) - 1
}
