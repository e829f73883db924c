package source

import (
	"iter"
	"slices"

	"flyover/api"
	"flyover/check"
)

// last returns the last point of a track.
func last(l []Fix) Fix {
	return l[len(l)-1]
}

func checkTick(n int) api.Errno {
	return check.Within(n, 0, api.MaxTick)
}

func checkSpeed(n int) api.Errno {
	return check.Within(n, 1, MaxSpeed)
}

// checkLength returns the error of a list that must have from 2 to limit elements, or OK.
func checkLength[T any](l []T, limit int) api.Errno {
	if len(l) < 2 {
		return api.ErrShort
	}
	return check.AtMost(l, limit)
}

// checkLasting returns ErrSpan for a track that lasts too long, or OK.
func checkLasting(l []Fix) api.Errno {
	if last(l).Tick-l[0].Tick > MaxTicks {
		return api.ErrSpan
	}
	return api.OK
}

func (p Fix) check() api.Errno {
	return check.First(checkTick(p.Tick), checkPlace(p.At), checkPower(p.Power))
}

// CheckTrack returns the first error of a track, or OK.
func CheckTrack(l []Fix) api.Errno {
	if e := checkLength(l, MaxPoints); e != api.OK {
		return e
	}
	for i, p := range l {
		if e := p.check(); e != api.OK {
			return e
		}
		if i > 0 && p.Tick <= l[i-1].Tick {
			return api.ErrOrder
		}
	}
	return checkLasting(l)
}

// segment returns the last point of a track that is not after a tick of it, and the next one.
func segment(l []Fix, tick int) (Fix, Fix) {
	at := 0
search:
	for i, p := range l {
		switch {
		case p.Tick > tick:
			break search
		default:
			at = i
		}
	}
	return l[at], l[at+1]
}

// state returns that of a track at a tick of it.
func state(l []Fix, tick int) State {
	a, b := segment(l, tick)
	at := func(from, to int) int { return between(from, to, tick-a.Tick, b.Tick-a.Tick) }
	return State{
		At:      api.Vector{X: at(a.At.X, b.At.X), Y: at(a.At.Y, b.At.Y), Z: at(a.At.Z, b.At.Z)},
		Heading: flat(minus(b.At, a.At)),
		Power:   at(a.Power, b.Power),
	}
}

// states visits the ticks that are in a span and in a track, each with its state.
func states(l []Fix, ticks api.Span) iter.Seq2[int, State] {
	from := max(ticks.From, l[0].Tick)
	to := min(ticks.To, last(l).Tick)
	return func(yield func(int, State) bool) {
		for i := range to - from {
			if !yield(from+i, state(l, from+i)) {
				return
			}
		}
	}
}

// At returns the state of a track at a tick.
func At(l []Fix, tick int) (State, api.Errno) {
	if e := CheckTrack(l); e != api.OK {
		return State{}, e
	}
	if tick < l[0].Tick || tick >= last(l).Tick {
		return State{}, api.ErrNone
	}
	return state(l, tick), api.OK
}

// flyable reports whether a speed leads from a point to a later one in time.
func flyable(a, b Fix, speed int) bool {
	way := speed * (b.Tick - a.Tick)
	return pair{square(minus(b.At, a.At)), way * way}.ascending()
}

// Repaired returns a track that is repaired by a speed.
func Repaired(l []Fix, speed int) ([]Fix, api.Errno) {
	if e := check.First(CheckTrack(l), checkSpeed(speed)); e != api.OK {
		return nil, e
	}
	repaired := make([]Fix, len(l))
	copy(repaired, l)
	n := 1
	for _, p := range l[1:] {
		if flyable(repaired[n-1], p, speed) {
			repaired[n] = p
			n++
		}
	}
	if n < 2 {
		return nil, api.ErrShort
	}
	return slices.Clip(repaired[:n]), api.OK
}

// Joined returns the points of two tracks.
func Joined(a, b []Fix) ([]Fix, api.Errno) {
	if e := check.First(CheckTrack(a), CheckTrack(b)); e != api.OK {
		return nil, e
	}
	if b[0].Tick <= last(a).Tick {
		return nil, api.ErrOrder
	}
	joined := slices.Concat(a, b)
	if e := check.First(check.AtMost(joined, MaxPoints), checkLasting(joined)); e != api.OK {
		return nil, e
	}
	return joined, api.OK
}
