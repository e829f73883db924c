package source_test

import (
	"math/rand"
	"slices"
	"testing"

	"flyover/api"
	"flyover/source"
)

// is compares a result with the expected one.
func is[T comparable](t *testing.T, what string, got, want T) {
	t.Helper()
	if got != want {
		t.Errorf("%s: got %v, want %v", what, got, want)
	}
}

// are compares a list with the expected one; nil and empty lists are equal.
func are[T comparable](t *testing.T, what string, got, want []T) {
	t.Helper()
	if !slices.Equal(got, want) {
		t.Errorf("%s: got %v, want %v", what, got, want)
	}
}

// areTypes compares types, in the same way.
func areTypes(t *testing.T, what string, got, want source.Type) {
	t.Helper()
	settings := slices.EqualFunc(got.Settings, want.Settings, func(a, b source.Setting) bool {
		return a.Power == b.Power && slices.Equal(a.Energies, b.Energies)
	})
	lists := slices.Equal(got.Shares, want.Shares) && slices.Equal(got.Squares, want.Squares) && settings
	if !lists || got.Name != want.Name || got.Direct != want.Direct || got.Side != want.Side {
		t.Errorf("%s: got %v, want %v", what, got, want)
	}
}

// seeded returns numbers that are the same in each run.
func seeded() *rand.Rand { return rand.New(rand.NewSource(1)) }

// from returns an integer from low to high.
func from(r *rand.Rand, low, high int) int { return low + r.Intn(high-low+1) }

// jet returns the type J of the document's examples.
func jet() source.Type {
	return source.Type{
		Name:     "jet",
		Shares:   []int{600, 400},
		Direct:   [8]int{1000, 1000, 1000, 1000, 500, 500, 500, 500},
		Side:     500,
		Squares:  []int{0, 100},
		Settings: []source.Setting{{Power: 10, Energies: []int{1000, 400}}, {Power: 20, Energies: []int{2000, 600}}},
	}
}

// changed returns J with a change.
func changed(f func(*source.Type)) source.Type {
	x := jet()
	f(&x)
	return x
}

// badType is a type with the last of the errors of CheckType, ErrRule.
func badType() source.Type {
	return changed(func(x *source.Type) { x.Settings[1].Energies[1] = 399 })
}

func at(x, y, z int) api.Vector { return api.Vector{X: x, Y: y, Z: z} }

func fix(tick, x, y, z, power int) source.Fix {
	return source.Fix{Tick: tick, At: at(x, y, z), Power: power}
}

// flight returns the track K of the document's examples.
func flight() []source.Fix { return []source.Fix{fix(5, 0, 0, 0, 10), fix(9, 8, 0, 0, 20)} }

// still returns a track of n points at 0, 0, 0, one at each tick.
func still(n int) []source.Fix {
	l := make([]source.Fix, n)
	for i := range l {
		l[i] = fix(i, 0, 0, 0, 1)
	}
	return l
}

// always is the span of all ticks.
func always() api.Span { return api.Span{To: api.MaxTick} }

// someType returns a type with a name.
func someType(r *rand.Rand, name string) source.Type {
	x := source.Type{Name: name, Shares: make([]int, from(r, 1, 8)), Side: from(r, 0, 1000)}
	for left, i := 1000, 0; i < len(x.Shares); i++ {
		x.Shares[i] = from(r, 0, left)
		if i == len(x.Shares)-1 {
			x.Shares[i] = left
		}
		left -= x.Shares[i]
	}
	for i := range x.Direct {
		x.Direct[i] = from(r, 0, 2000)
	}
	square := 0
	for range from(r, 1, 8) {
		x.Squares = append(x.Squares, square)
		square += from(r, 1, 20000)
	}
	power, before := 0, make([]int, len(x.Squares))
	for range from(r, 1, 6) {
		power += from(r, 1, 16)
		energies := make([]int, len(before))
		least := 0
		for i := len(energies) - 1; i >= 0; i-- {
			energies[i] = max(least, before[i]) + from(r, 0, 999)
			least = energies[i]
		}
		x.Settings = append(x.Settings, source.Setting{Power: power, Energies: energies})
		before = energies
	}
	return x
}

// somePlace returns a place near to 0, 0, 0.
func somePlace(r *rand.Rand) api.Vector {
	return at(from(r, -100, 100), from(r, -100, 100), from(r, 0, 100))
}

// someTrack returns a track of points near to 0, 0, 0.
func someTrack(r *rand.Rand) []source.Fix {
	tick := from(r, 0, 50)
	var l []source.Fix
	for range from(r, 2, 16) {
		l = append(l, source.Fix{Tick: tick, At: somePlace(r), Power: from(r, 1, 100)})
		tick += from(r, 1, 20)
	}
	return l
}
