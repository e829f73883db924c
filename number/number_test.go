package number_test

import (
	"math"
	"testing"

	"flyover/api"
	"flyover/number"
)

// The divisor is above 0 and divides both numbers, and no greater one does.
func TestDivisor(t *testing.T) {
	for a := -40; a <= 40; a++ {
		for b := 1; b <= 40; b++ {
			want := 0
			for d := 1; d <= b; d++ {
				if a%d == 0 && b%d == 0 {
					want = d
				}
			}
			if got := number.Divisor(a, b); got != want {
				t.Errorf("Divisor of %d and %d: got %d, want %d", a, b, got, want)
			}
		}
	}
}

// A ratio has the value of the quotient, and no common divisor.
func TestRatio(t *testing.T) {
	for _, x := range []struct{ n, d, num, den int }{
		{6, 4, 3, 2}, {-6, 4, -3, 2}, {0, 9, 0, 1}, {7, 1, 7, 1}, {5, 5, 1, 1}, {-1, 3, -1, 3}, {8000000000, 6, 4000000000, 3},
	} {
		if got := number.Ratio(x.n, x.d); got != (api.Ratio{Num: x.num, Den: x.den}) {
			t.Errorf("Ratio of %d and %d: got %v", x.n, x.d, got)
		}
	}
}

// Quotients are rounded down and up.
func TestDownAndUp(t *testing.T) {
	for n := range 100 {
		for d := 1; d < 20; d++ {
			low, high := number.Down(n, d), number.Up(n, d)
			if low*d > n || (low+1)*d <= n || high*d < n || (high-1)*d >= n {
				t.Errorf("%d by %d: got %d and %d", n, d, low, high)
			}
		}
	}
}

// A quotient is rounded to the nearest integer, from the middle to the greater one.
func TestNearest(t *testing.T) {
	for n := range 200 {
		for d := 1; d < 20; d++ {
			// Twice the quotient lies from twice the integer less 1 on, before twice the integer plus 1.
			if x := number.Nearest(n, d); 2*n < (2*x-1)*d || 2*n >= (2*x+1)*d {
				t.Errorf("%d by %d: got %d", n, d, x)
			}
		}
	}
	for _, x := range []struct{ n, d, want int }{
		{5, 2, 3}, {7, 2, 4}, {1, 3, 0}, {2, 3, 1}, {640000000000000000, 640000000000000, 1000}, {864000000000000000, 86400, 10000000000000},
	} {
		if got := number.Nearest(x.n, x.d); got != x.want {
			t.Errorf("Nearest of %d by %d: got %d, want %d", x.n, x.d, got, x.want)
		}
	}
}

// A root lies between both ends, which are the same exactly for the root of a square.
func TestRoot(t *testing.T) {
	for n := range 2000 {
		for d := 1; d < 12; d++ {
			x := number.Root(n, d)
			low, high := x.Low*x.Low*d <= n && (x.Low+1)*(x.Low+1)*d > n, x.High*x.High*d >= n && (x.High == 0 || (x.High-1)*(x.High-1)*d < n)
			if !low || !high {
				t.Errorf("Root of %d by %d: got %v", n, d, x)
			}
		}
	}
	const most = 3037000499
	for _, x := range []struct{ n, low, high int }{
		{math.MaxInt, most, most + 1}, {most * most, most, most}, {most*most - 1, most - 1, most}, {1 << 60, 1 << 30, 1 << 30},
	} {
		if got := number.Root(x.n, 1); got != (api.Interval{Low: x.low, High: x.high}) {
			t.Errorf("Root of %d: got %v", x.n, got)
		}
	}
}
