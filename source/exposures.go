package source

import (
	"flyover/api"
	"flyover/check"
)

// checkTicks returns ErrSpan for ticks that are not a span, or OK.
func checkTicks(s api.Span) api.Errno {
	if s.From < 0 || s.From > s.To || s.To > api.MaxTick {
		return api.ErrSpan
	}
	return api.OK
}

// exposure returns that of a receiver to a type on a track, in a span of ticks.
func (t Type) exposure(l []Fix, ticks api.Span, receiver api.Vector) int {
	sum := 0
	for _, s := range states(l, ticks) {
		sum += t.heard(s, receiver)
	}
	return sum
}

// Exposure returns the exposure of a receiver in a span of ticks.
func Exposure(t Type, l []Fix, ticks api.Span, receiver api.Vector) (int, api.Errno) {
	if e := check.First(CheckType(t), CheckTrack(l), checkTicks(ticks), checkPlace(receiver)); e != api.OK {
		return 0, e
	}
	return t.exposure(l, ticks, receiver), api.OK
}

// Maximum returns the maximum in a span of ticks, and its tick.
func Maximum(t Type, l []Fix, ticks api.Span, receiver api.Vector) (int, int, api.Errno) {
	if e := check.First(CheckType(t), CheckTrack(l), checkTicks(ticks), checkPlace(receiver)); e != api.OK {
		return 0, 0, e
	}
	// The maximum of silence is 0, so that only a number below 0 says that there was no tick.
	most, at := -1, 0
	for tick, s := range states(l, ticks) {
		if n := t.heard(s, receiver); n > most {
			most, at = n, tick
		}
	}
	if most < 0 {
		return 0, 0, api.ErrNone
	}
	return most, at, api.OK
}

// directivities returns the least and the greatest directivity of a type.
func (t Type) directivities() api.Interval {
	x := api.Interval{Low: t.Direct[0], High: t.Direct[0]}
	for _, n := range t.Direct {
		x = api.Interval{Low: min(x.Low, n), High: max(x.High, n)}
	}
	return x
}

// enclosed returns the enclosure of the exposure by the segment from a to b.
func (t Type) enclosed(a, b Fix, receiver api.Vector) api.Interval {
	ticks := b.Tick - a.Tick
	squares := boxSquares(a.At, b.At, receiver)
	direct := t.directivities()
	least := t.emission(min(a.Power, b.Power), squares[1]) * direct.Low * t.Side / (Whole * Whole)
	most := t.emission(max(a.Power, b.Power), squares[0]) * direct.High
	// Low is rounded at each tick, as what is heard is; High once for all of them.
	return api.Interval{Low: ticks * least, High: (ticks*most + Whole - 1) / Whole}
}

// Enclosed returns the enclosure of an exposure.
func Enclosed(t Type, l []Fix, receiver api.Vector) (api.Interval, api.Errno) {
	if e := check.First(CheckType(t), CheckTrack(l), checkPlace(receiver)); e != api.OK {
		return api.Interval{}, e
	}
	var sum api.Interval
	for i, b := range l[1:] {
		x := t.enclosed(l[i], b, receiver)
		sum.Low += x.Low
		sum.High += x.High
	}
	return sum, api.OK
}
