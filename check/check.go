// Package check has the checks of arguments that the packages of the layers share.
package check

import "flyover/api"

// First returns the first of errors that is one, or OK.
func First(errors ...api.Errno) api.Errno {
	for _, e := range errors {
		if e != api.OK {
			return e
		}
	}
	return api.OK
}

// That returns an error unless what it is about holds; then OK.
func That(holds bool, e api.Errno) api.Errno {
	if !holds {
		return e
	}
	return api.OK
}

// Fault is something that can be wrong, and how it is told: by an error or by a word.
type Fault[T, W any] struct {
	Tell  W
	Holds func(x T) bool
}

// Wrong returns how the first fault that holds for something is told, or the zero value if none does.
func Wrong[T, W any](x T, faults []Fault[T, W]) W {
	for _, f := range faults {
		if f.Holds(x) {
			return f.Tell
		}
	}
	var right W
	return right
}

// Each returns the error of the first element for which f finds one, or OK.
func Each[T any](l []T, f func(T) api.Errno) api.Errno {
	for _, x := range l {
		if e := f(x); e != api.OK {
			return e
		}
	}
	return api.OK
}

// Once returns ErrTwice for a name that it was given before, or OK.
type Once func(name string) api.Errno

// Named returns ErrMany for a list with more elements than a limit, or the error of the first element for which f finds one, or OK. With each element f gets what tells the names that are there twice.
func Named[T any](l []T, limit int, f func(x T, once Once) api.Errno) api.Errno {
	if e := AtMost(l, limit); e != api.OK {
		return e
	}
	seen := map[string]bool{}
	once := func(name string) api.Errno {
		twice := seen[name]
		seen[name] = true
		return That(!twice, api.ErrTwice)
	}
	return Each(l, func(x T) api.Errno { return f(x, once) })
}

// AtMost returns ErrMany for a list with more elements than a limit, or OK.
func AtMost[T any](l []T, limit int) api.Errno {
	if len(l) > limit {
		return api.ErrMany
	}
	return api.OK
}

// Count returns the error of a list that must have from 1 to limit elements, or OK.
func Count[T any](l []T, limit int) api.Errno {
	if len(l) == 0 {
		return api.ErrEmpty
	}
	return AtMost(l, limit)
}

// Within returns ErrRange for a number that is not from low to high, or OK.
func Within(n, low, high int) api.Errno {
	if n < low || n > high {
		return api.ErrRange
	}
	return api.OK
}

// Index returns ErrUnknown for an index that no element of a list has, or OK.
func Index[T any](l []T, i int) api.Errno {
	return That(i >= 0 && i < len(l), api.ErrUnknown)
}

// Ascending returns the error of the first integer for which f finds one, or ErrOrder if it is not above the one before it; or OK.
func Ascending(l []int, f func(int) api.Errno) api.Errno {
	for i, n := range l {
		ordered := i == 0 || n > l[i-1]
		if e := First(f(n), That(ordered, api.ErrOrder)); e != api.OK {
			return e
		}
	}
	return api.OK
}

// Span returns ErrSpan for a span that is empty, or does not lie from 0 to a limit, or OK.
func Span(x api.Span, limit int) api.Errno {
	return That(x.From >= 0 && x.From < x.To && x.To <= limit, api.ErrSpan)
}

// Interval returns the first error of an interval whose ends f examines, or OK.
func Interval(x api.Interval, f func(int) api.Errno) api.Errno {
	if e := First(f(x.Low), f(x.High)); e != api.OK {
		return e
	}
	if x.Low > x.High {
		return api.ErrOrder
	}
	return api.OK
}
