// Package number has the arithmetic of integers that the packages of the layers share.
package number

import (
	"sort"

	"flyover/api"
)

// maxRoot is the greatest integer whose square is an int.
const maxRoot = 3037000499

// Divisor returns the greatest common divisor of an integer and one above 0.
func Divisor(a, b int) int {
	for a != 0 {
		a, b = b%a, a
	}
	return max(b, -b)
}

// Ratio returns n / d, d above 0, in lowest terms.
func Ratio(n, d int) api.Ratio {
	common := Divisor(n, d)
	return api.Ratio{Num: n / common, Den: d / common}
}

// Down returns n / d, n from 0 on and d above 0, rounded down.
func Down(n, d int) int { return n / d }

// Up returns n / d, n from 0 on and d above 0, rounded up.
func Up(n, d int) int { return (n + d - 1) / d }

// Nearest returns n / d, n from 0 on and d above 0, rounded to the nearest integer, from the middle to the greater one.
func Nearest(n, d int) int { return (2*n + d) / (2 * d) }

// Root returns the interval of the square root of n / d, n from 0 on and d above 0: from it rounded down to it rounded up.
func Root(n, d int) api.Interval {
	q := n / d
	x := sort.Search(min(q, maxRoot)+1, func(i int) bool { return i*i > q }) - 1
	if x*x*d == n {
		return api.Interval{Low: x, High: x}
	}
	return api.Interval{Low: x, High: x + 1}
}
