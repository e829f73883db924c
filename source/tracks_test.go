package source_test

import (
	"fmt"
	"math"
	"slices"
	"testing"

	"flyover/api"
	"flyover/source"
)

// badTracks has tracks with their errors.
var badTracks = []struct {
	l []source.Fix
	e api.Errno
}{
	{nil, api.ErrShort}, {flight()[:1], api.ErrShort}, {[]source.Fix{{Tick: -1}}, api.ErrShort},
	{make([]source.Fix, 17), api.ErrMany}, {still(17), api.ErrMany},
	{[]source.Fix{fix(-1, 0, 0, 0, 1), fix(9, 0, 0, 0, 1)}, api.ErrRange},
	{[]source.Fix{fix(1, 0, 0, 0, 1), fix(api.MaxTick+1, 0, 0, 0, 1)}, api.ErrRange},
	{[]source.Fix{fix(1, 100001, 0, 0, 1), fix(9, 0, 0, 0, 1)}, api.ErrRange},
	{[]source.Fix{fix(1, 0, -100001, 0, 1), fix(9, 0, 0, 0, 1)}, api.ErrRange},
	{[]source.Fix{fix(1, 0, 0, -1, 1), fix(9, 0, 0, 0, 1)}, api.ErrRange},
	{[]source.Fix{fix(1, 0, 0, 0, 1), fix(9, 0, 0, 20001, 1)}, api.ErrRange},
	{[]source.Fix{fix(1, 0, 0, 0, 0), fix(9, 0, 0, 0, 1)}, api.ErrRange},
	{[]source.Fix{fix(1, 0, 0, 0, 1), fix(1, 0, 0, 0, 101)}, api.ErrRange},
	{[]source.Fix{fix(1, 0, 0, 0, 1), fix(1, 0, 0, 0, 1), fix(-1, 0, 0, 0, 1)}, api.ErrOrder},
	{[]source.Fix{fix(2, 0, 0, 0, 1), fix(1, 0, 0, 0, 1)}, api.ErrOrder},
	{[]source.Fix{fix(1, 0, 0, 0, 1), fix(1002, 0, 0, 0, 1), fix(1003, 0, 0, 0, 0)}, api.ErrRange},
	{[]source.Fix{fix(1, 0, 0, 0, 1), fix(1002, 0, 0, 0, 1), fix(3, 0, 0, 0, 1)}, api.ErrOrder},
	{[]source.Fix{fix(1, 0, 0, 0, 1), fix(1002, 0, 0, 0, 1)}, api.ErrSpan},
	{[]source.Fix{fix(math.MinInt, 0, 0, 0, 1), fix(math.MaxInt, 0, 0, 0, 1)}, api.ErrRange},
}

// P2.2: what a track may be.
func TestCheckTrack(t *testing.T) {
	for i, l := range [][]source.Fix{
		flight(), still(2), still(16),
		{fix(1, 0, 0, 0, 1), fix(1001, 0, 0, 0, 1)},
		{fix(0, 100000, -100000, 20000, 100), fix(1, -100000, 100000, 0, 1)},
		{fix(api.MaxTick-1, 0, 0, 0, 1), fix(api.MaxTick, 0, 0, 0, 1)},
	} {
		is(t, fmt.Sprint("CheckTrack ", i), source.CheckTrack(l), api.OK)
	}
	for i, x := range badTracks {
		is(t, fmt.Sprint("bad CheckTrack ", i), source.CheckTrack(x.l), x.e)
	}
}

// P2.2: states, in whatever direction a track leads.
func TestAt(t *testing.T) {
	down := []source.Fix{fix(0, 9, 0, 9, 9), fix(4, 0, -1, 0, 2), fix(6, 0, 0, 0, 3)}
	below := []source.Fix{fix(0, -7, -9, 3, 5), fix(3, -8, -4, 1, 4)}
	for i, x := range []struct {
		l    []source.Fix
		tick int
		s    source.State
	}{
		{flight(), 5, source.State{At: at(0, 0, 0), Heading: api.Point{X: 8}, Power: 10}},
		{flight(), 6, source.State{At: at(2, 0, 0), Heading: api.Point{X: 8}, Power: 12}},
		{flight(), 8, source.State{At: at(6, 0, 0), Heading: api.Point{X: 8}, Power: 17}},
		{down, 0, source.State{At: at(9, 0, 9), Heading: api.Point{X: -9, Y: -1}, Power: 9}},
		{down, 1, source.State{At: at(6, -1, 6), Heading: api.Point{X: -9, Y: -1}, Power: 7}},
		{down, 3, source.State{At: at(2, -1, 2), Heading: api.Point{X: -9, Y: -1}, Power: 3}},
		{down, 4, source.State{At: at(0, -1, 0), Heading: api.Point{Y: 1}, Power: 2}},
		{down, 5, source.State{At: at(0, -1, 0), Heading: api.Point{Y: 1}, Power: 2}},
		{below, 1, source.State{At: at(-8, -8, 2), Heading: api.Point{X: -1, Y: 5}, Power: 4}},
		{below, 2, source.State{At: at(-8, -6, 1), Heading: api.Point{X: -1, Y: 5}, Power: 4}},
		{still(2), 0, source.State{Power: 1}},
	} {
		s, e := source.At(x.l, x.tick)
		is(t, fmt.Sprint("At ", i), s, x.s)
		is(t, fmt.Sprint("error of At ", i), e, api.OK)
	}
	for _, tick := range []int{4, 9, -1, math.MinInt, math.MaxInt} {
		s, e := source.At(flight(), tick)
		is(t, fmt.Sprint("error of At ", tick), e, api.ErrNone)
		is(t, "state beside the error", s, source.State{})
	}
	for i, x := range badTracks {
		s, e := source.At(x.l, -1)
		is(t, fmt.Sprint("bad At ", i), e, x.e)
		is(t, "state beside the error", s, source.State{})
	}
}

// P2.2: tracks without the points that a speed does not reach.
func TestRepaired(t *testing.T) {
	wild := []source.Fix{fix(0, 0, 0, 0, 1), fix(1, 50, 0, 0, 2), fix(2, 2, 0, 0, 3), fix(4, 3, 4, 0, 4)}
	risen := []source.Fix{fix(0, 0, 0, 0, 1), fix(1, 0, 0, 5, 1), fix(2, 3, 4, 5, 1)}
	lost := []source.Fix{fix(0, 100000, 0, 0, 1), fix(1, 0, 0, 0, 1), fix(2, 0, 1, 0, 1), fix(3, 0, 2, 0, 1)}
	for i, x := range []struct {
		l     []source.Fix
		speed int
		want  []source.Fix
		e     api.Errno
	}{
		{flight(), 2, flight(), api.OK}, {flight(), 1, nil, api.ErrShort},
		{wild, 1, []source.Fix{wild[0], wild[2]}, api.OK}, {wild, 3, []source.Fix{wild[0], wild[2], wild[3]}, api.OK},
		{wild, 49, []source.Fix{wild[0], wild[2], wild[3]}, api.OK}, {wild, 50, wild, api.OK},
		{risen, 5, risen, api.OK}, {risen, 4, []source.Fix{risen[0], risen[2]}, api.OK}, {risen, 3, nil, api.ErrShort},
		{lost, 1000, nil, api.ErrShort},
		{still(16), 1, still(16), api.OK},
		{wild, 0, nil, api.ErrRange}, {wild, 1001, nil, api.ErrRange}, {wild, 1000, wild, api.OK},
	} {
		l, e := source.Repaired(x.l, x.speed)
		are(t, fmt.Sprint("Repaired ", i), l, x.want)
		is(t, fmt.Sprint("error of Repaired ", i), e, x.e)
	}
	for i, x := range badTracks {
		l, e := source.Repaired(x.l, 0)
		is(t, fmt.Sprint("bad Repaired ", i), e, x.e)
		is(t, "points beside the error", len(l), 0)
	}
}

// P2.2: tracks joined.
func TestJoined(t *testing.T) {
	later := []source.Fix{fix(10, 8, 0, 0, 20), fix(12, 9, 0, 0, 20)}
	shift := func(l []source.Fix, ticks int) []source.Fix {
		for i := range l {
			l[i].Tick += ticks
		}
		return l
	}
	for i, x := range []struct {
		a, b []source.Fix
		e    api.Errno
	}{
		{flight(), later, api.OK}, {later, flight(), api.ErrOrder}, {flight(), flight(), api.ErrOrder},
		{flight(), []source.Fix{fix(9, 0, 0, 0, 1), fix(12, 0, 0, 0, 1)}, api.ErrOrder},
		{flight(), shift(still(14), 10), api.OK}, {flight(), shift(still(15), 10), api.ErrMany},
		{still(16), shift(still(16), 5), api.ErrOrder},
		{flight(), []source.Fix{fix(10, 0, 0, 0, 1), fix(1005, 0, 0, 0, 1)}, api.OK},
		{flight(), []source.Fix{fix(10, 0, 0, 0, 1), fix(1006, 0, 0, 0, 1)}, api.ErrSpan},
		{still(15), []source.Fix{fix(999, 0, 0, 0, 1), fix(1999, 0, 0, 0, 1)}, api.ErrMany},
	} {
		l, e := source.Joined(x.a, x.b)
		is(t, fmt.Sprint("error of Joined ", i), e, x.e)
		if x.e != api.OK {
			is(t, "points beside the error", len(l), 0)
			continue
		}
		are(t, fmt.Sprint("Joined ", i), l, slices.Concat(x.a, x.b))
		is(t, "CheckTrack", source.CheckTrack(l), api.OK)
	}
	for i, x := range badTracks {
		_, e := source.Joined(x.l, []source.Fix{{}})
		is(t, fmt.Sprint("bad first track ", i), e, x.e)
		_, e = source.Joined(later, x.l)
		is(t, fmt.Sprint("bad second track ", i), e, x.e)
	}
}
