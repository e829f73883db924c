package monitor

import (
	"slices"

	"flyover/api"
	"flyover/check"
	"flyover/list"
	"flyover/sound"
)

// perUnit is the integer of the sample 1.
const perUnit = 16

// minWindow is how many samples a window has at least.
const minWindow = 2

func checkWindow(l []float32) api.Errno {
	return check.First(
		check.That(len(l) >= minWindow, api.ErrShort),
		check.AtMost(l, MaxWindow),
		check.Each(l, sound.CheckSample),
	)
}

// checkWindows returns the first error of two windows, or OK.
func checkWindows(a, b []float32) api.Errno {
	return check.First(checkWindow(a), checkWindow(b), check.That(len(a) == len(b), api.ErrShape))
}

// integers returns those of samples.
func integers(l []float32) []int {
	return list.Mapped(l, func(x float32) int { return int(x * perUnit) })
}

// correlations returns those of two windows, at each d.
func correlations(a, b []float32) []int {
	first, second := integers(a), integers(b)
	n := len(first)
	l := make([]int, n)
	for d := range n {
		for i, x := range first {
			l[d] += x * second[(i+d)%n]
		}
	}
	return l
}

// Correlations returns the correlations of two windows of samples.
func Correlations(a, b []float32) ([]int, api.Errno) {
	if e := checkWindows(a, b); e != api.OK {
		return nil, e
	}
	return correlations(a, b), api.OK
}

// Lag returns the lag of two windows, and the two greatest correlations.
func Lag(a, b []float32) (int, [2]int, api.Errno) {
	if e := checkWindows(a, b); e != api.OK {
		return 0, [2]int{}, e
	}
	l := correlations(a, b)
	n := len(l)
	most := slices.Max(l)
	d := slices.Index(l, most)
	two := [2]int{most, slices.Max(slices.Delete(l, d, d+1))}
	// More than half of the way around is less than half of it back.
	if 2*d > n {
		d -= n
	}
	return d, two, api.OK
}

func checkLag(n int) api.Errno {
	return check.Within(n, -MaxLag, MaxLag)
}

// bearing returns the sector of two lags of which one is not 0.
func bearing(x, y int) int {
	far, high := max(x, -x), max(y, -y)
	switch {
	case x > 0 && 2*high < far:
		return 0
	case y > 0 && 2*far < high:
		return 2
	case x < 0 && 2*high < far:
		return 4
	case y < 0 && 2*far < high:
		return 6
	case x > 0 && y > 0:
		return 1
	case x < 0 && y > 0:
		return 3
	case x < 0:
		return 5
	}
	return 7
}

// Bearing returns the sector of two lags.
func Bearing(x, y int) (int, api.Errno) {
	if e := check.First(checkLag(x), checkLag(y)); e != api.OK {
		return 0, e
	}
	lags := [2]int{x, y}
	if lags == [2]int{} {
		return 0, api.ErrZero
	}
	return bearing(x, y), api.OK
}
