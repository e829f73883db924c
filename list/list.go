// Package list has what the packages of the layers share to transform lists.
package list

// Mapped returns what f makes of each element.
func Mapped[A, B any](l []A, f func(A) B) []B {
	out := make([]B, 0, len(l))
	for _, x := range l {
		out = append(out, f(x))
	}
	return out
}
