package number_test

import (
	"testing"

	"flyover/number"
)

// The divisor is above 0 and divides both numbers, and no greater one does.
func TestDivisor(t *testing.T) {
	for a := -40; a <= 40; a++ {
		for b := 1; b <= 40; b++ {
			want := 0
			for d := 1; d <= b; d++ {
				if a%d == 0 && b%d == 0 {
					want = d
				}
			}
			if got := number.Divisor(a, b); got != want {
				t.Errorf("Divisor of %d and %d: got %d, want %d", a, b, got, want)
			}
		}
	}
}
