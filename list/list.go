// Package list has what the packages of the layers share to transform lists.
package list

// Mapped returns what f makes of each element.
func Mapped[A, B any](l []A, f func(A) B) []B {
	out := make([]B, 0, len(l))
	for _, x := range l {
		out = append(out, f(x))
	}
	return out
}

// Filtered returns the elements for which f holds, in their order.
func Filtered[T any](l []T, f func(T) bool) []T {
	var out []T
	for _, x := range l {
		if f(x) {
			out = append(out, x)
		}
	}
	return out
}
