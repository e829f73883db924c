// Package number has the arithmetic of integers that the packages of the layers share.
package number

// Divisor returns the greatest common divisor of an integer and one above 0.
func Divisor(a, b int) int {
	for a != 0 {
		a, b = b%a, a
	}
	return max(b, -b)
}
