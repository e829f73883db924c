package night

import (
	"iter"

	"flyover/api"
	"flyover/check"
)

func checkMinute(n int) api.Errno {
	return check.Within(n, 0, Day-1)
}

// checkSpan returns ErrSpan for what is not a span of the day, or OK.
func checkSpan(s api.Span) api.Errno {
	e := check.First(checkMinute(s.From), checkMinute(s.To))
	return check.That(e == api.OK && s.From != s.To, api.ErrSpan)
}

// offset returns how many minutes come from the From of a span of the day on, before a minute.
func offset(s api.Span, minute int) int {
	return (minute - s.From + Day) % Day
}

// length returns how many minutes a span of the day has.
func length(s api.Span) int {
	return offset(s, s.To)
}

// within reports whether a minute is one of a span of the day.
func within(s api.Span, minute int) bool {
	return offset(s, minute) < length(s)
}

// overMidnight reports whether a span of the day leads over midnight.
func overMidnight(s api.Span) bool {
	return s.From > s.To
}

// minutes visits those of a span of the day, each with its offset.
func minutes(s api.Span) iter.Seq2[int, int] {
	return func(yield func(offset, minute int) bool) {
		for offset := range length(s) {
			if !yield(offset, (s.From+offset)%Day) {
				return
			}
		}
	}
}

// Within reports whether a minute is one of a span of the day.
func Within(s api.Span, minute int) (bool, api.Errno) {
	if e := check.First(checkSpan(s), checkMinute(minute)); e != api.OK {
		return false, e
	}
	return within(s, minute), api.OK
}

// Length returns how many minutes a span of the day has.
func Length(s api.Span) (int, api.Errno) {
	if e := checkSpan(s); e != api.OK {
		return 0, e
	}
	return length(s), api.OK
}
