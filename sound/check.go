package sound

import "flyover/api"

// first returns the first of errors that is one, or OK.
func first(errors ...api.Errno) api.Errno {
	for _, e := range errors {
		if e != api.OK {
			return e
		}
	}
	return api.OK
}

// firstIn returns the error of the first element for which a check finds one, or OK.
func firstIn[T any](l []T, check func(T) api.Errno) api.Errno {
	for _, x := range l {
		if e := check(x); e != api.OK {
			return e
		}
	}
	return api.OK
}

// atMost returns ErrMany for a list with more elements than a limit, or OK.
func atMost[T any](l []T, limit int) api.Errno {
	if len(l) > limit {
		return api.ErrMany
	}
	return api.OK
}

// within returns ErrRange for a number that is not from low to high, or OK.
func within(n, low, high int) api.Errno {
	if n < low || n > high {
		return api.ErrRange
	}
	return api.OK
}

// mapped returns what f makes of each element.
func mapped[A, B any](l []A, f func(A) B) []B {
	out := make([]B, 0, len(l))
	for _, x := range l {
		out = append(out, f(x))
	}
	return out
}
