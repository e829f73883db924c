package sound_test

import (
	"math"
	"math/rand"
	"slices"
	"testing"

	"flyover/api"
)

var (
	nan      = float32(math.NaN())
	inf      = float32(math.Inf(1))
	zeroKey  = api.Key{}
	otherKey = api.Key{9, 8, 7, 6, 5, 4, 3, 2}
)

// minusZero is a function because the constant -0 is 0.
func minusZero() float32 { return float32(math.Copysign(0, -1)) }

// is compares a result with the expected one.
func is[T comparable](t *testing.T, what string, got, want T) {
	t.Helper()
	if got != want {
		t.Errorf("%s: got %v, want %v", what, got, want)
	}
}

// are compares a list with the expected one; nil and empty lists are equal.
func are[T comparable](t *testing.T, what string, got, want []T) {
	t.Helper()
	if !slices.Equal(got, want) {
		t.Errorf("%s: got %v, want %v", what, got, want)
	}
}

// seeded returns numbers that are the same in each run.
func seeded() *rand.Rand { return rand.New(rand.NewSource(1)) }

// below returns 0 to n - 1, in this order.
func below(n int) []int {
	l := make([]int, n)
	for i := range l {
		l[i] = i
	}
	return l
}

// some returns n integers from low to high.
func some(r *rand.Rand, n, low, high int) []int {
	l := make([]int, n)
	for i := range l {
		l[i] = low + r.Intn(high-low+1)
	}
	return l
}

// sample returns the sample with an integer.
func sample(integer int) float32 { return float32(integer) / 16 }

// samples returns n samples.
func samples(r *rand.Rand, n int) []float32 {
	l := make([]float32, n)
	for i := range l {
		l[i] = sample(r.Intn(2*16384+1) - 16384)
	}
	return l
}

// spoilt returns a list of n zeros with x at an index.
func spoilt[T any](n, at int, x T) []T {
	l := make([]T, n)
	l[at] = x
	return l
}
