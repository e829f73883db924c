package source_test

import (
	"fmt"
	"math"
	"slices"
	"testing"

	"flyover/api"
	"flyover/source"
)

// climb returns the procedure of the document's examples.
func climb() []source.Step {
	return []source.Step{{Power: 100}, {Along: 10, Height: 50, Power: 80}}
}

// badProcedures has procedures with their errors.
var badProcedures = []struct {
	p []source.Step
	e api.Errno
}{
	{nil, api.ErrShort}, {climb()[:1], api.ErrShort}, {make([]source.Step, 9), api.ErrMany},
	{[]source.Step{{Along: -1, Power: 1}, {Along: 1, Power: 1}}, api.ErrRange},
	{[]source.Step{{Power: 1}, {Along: 400001, Power: 1}}, api.ErrRange},
	{[]source.Step{{Power: 1}, {Along: 1, Height: -1, Power: 1}}, api.ErrRange},
	{[]source.Step{{Power: 1}, {Along: 1, Height: 20001, Power: 1}}, api.ErrRange},
	{[]source.Step{{Along: 1, Power: 0}, {Along: 1, Power: 1}}, api.ErrRange},
	{[]source.Step{{Power: 1}, {Power: 101}}, api.ErrRange},
	{[]source.Step{{Along: 1, Power: 1}, {Along: 2, Power: 0}}, api.ErrOrder},
	{[]source.Step{{Power: 1}, {Power: 1}}, api.ErrOrder},
	{[]source.Step{{Power: 1}, {Along: 2, Power: 1}, {Along: 1, Power: 1}}, api.ErrOrder},
}

// P2.2: what a procedure may be.
func TestCheckProcedure(t *testing.T) {
	eight := slices.Repeat([]source.Step{{Height: 20000, Power: 100}}, 8)
	for i := range eight {
		eight[i].Along = i * 57142
	}
	is(t, "climb", source.CheckProcedure(climb()), api.OK)
	is(t, "eight", source.CheckProcedure(eight), api.OK)
	is(t, "far", source.CheckProcedure([]source.Step{{Power: 1}, {Along: 400000, Power: 1}}), api.OK)
	for i, x := range badProcedures {
		is(t, fmt.Sprint("bad CheckProcedure ", i), source.CheckProcedure(x.p), x.e)
	}
}

// P2.2: tracks of paths by procedures.
func TestFlown(t *testing.T) {
	path := []api.Point{{}, {X: 10}, {X: 10, Y: 5}}
	hill := []source.Step{{Height: 7, Power: 9}, {Along: 4, Height: 9, Power: 2}, {Along: 7, Height: 0, Power: 50}}
	round := []api.Point{{}, {X: -2}, {X: -2, Y: -1}, {X: -1, Y: 0}, {X: -2, Y: 0}, {}, {X: 100}}
	long := []api.Point{{X: -100000, Y: -100000}, {X: 100000, Y: 100000}}
	most, mostFlown := make([]api.Point, 16), make([]source.Fix, 16)
	for i := range most {
		most[i], mostFlown[i] = api.Point{Y: -10 * i}, fix(i, 0, -10*i, 50, 80)
	}
	mostFlown[0] = fix(0, 0, 0, 0, 100)
	for i, x := range []struct {
		path        []api.Point
		p           []source.Step
		speed, tick int
		want        []source.Fix
	}{
		{most, climb(), 10, 0, mostFlown},
		{path, climb(), 4, 100, []source.Fix{fix(100, 0, 0, 0, 100), fix(103, 10, 0, 50, 80), fix(104, 10, 5, 50, 80)}},
		{[]api.Point{{}, {X: 3}, {X: 3, Y: -3}}, climb(), 1, 0, []source.Fix{fix(0, 0, 0, 0, 100), fix(3, 3, 0, 15, 94), fix(6, 3, -3, 30, 88)}},
		{round, hill, 1, 7, []source.Fix{fix(7, 0, 0, 7, 9), fix(9, -2, 0, 8, 5), fix(10, -2, -1, 8, 3), fix(12, -1, 0, 6, 18), fix(13, -2, 0, 3, 34), fix(15, 0, 0, 0, 50), fix(115, 100, 0, 0, 50)}},
		{path, climb(), 5, api.MaxTick - 3, []source.Fix{fix(api.MaxTick-3, 0, 0, 0, 100), fix(api.MaxTick-1, 10, 0, 50, 80), fix(api.MaxTick, 10, 5, 50, 80)}},
		{long, climb(), 1000, 0, []source.Fix{fix(0, -100000, -100000, 0, 100), fix(400, 100000, 100000, 50, 80)}},
		{[]api.Point{{}, {X: 1000}}, climb(), 1, 0, []source.Fix{fix(0, 0, 0, 0, 100), fix(1000, 1000, 0, 50, 80)}},
	} {
		l, e := source.Flown(x.path, x.p, x.speed, x.tick)
		are(t, fmt.Sprint("Flown ", i), l, x.want)
		is(t, fmt.Sprint("error of Flown ", i), e, api.OK)
	}
}

// P2.2: the errors of paths, and of what is flown.
func TestFlownErrors(t *testing.T) {
	path := []api.Point{{}, {X: 10}, {X: 10, Y: 5}}
	long := []api.Point{{X: -100000, Y: -100000}, {X: 100000, Y: 100000}}
	for i, x := range []struct {
		path        []api.Point
		p           []source.Step
		speed, tick int
		e           api.Errno
	}{
		{nil, nil, 0, -1, api.ErrShort}, {path[:1], climb(), 4, 0, api.ErrShort},
		{make([]api.Point, 17), nil, 4, 0, api.ErrMany},
		{[]api.Point{{}, {}, {X: 100001}}, nil, 4, 0, api.ErrTwice},
		{[]api.Point{{}, {X: 100001}, {X: 100001}}, nil, 4, 0, api.ErrRange},
		{[]api.Point{{X: -100001}, {}}, nil, 4, 0, api.ErrRange},
		{[]api.Point{{Y: 100001}, {}}, nil, 4, 0, api.ErrRange},
		{[]api.Point{{}, {Y: -100001}}, nil, 4, 0, api.ErrRange},
		{path, climb(), 0, 0, api.ErrRange}, {path, climb(), 1001, 0, api.ErrRange},
		{path, climb(), 4, -1, api.ErrRange}, {path, climb(), 4, api.MaxTick + 1, api.ErrRange},
		{append(long, api.Point{X: 99999, Y: 100000}), climb(), 1, 0, api.ErrLarge},
		{append(long, api.Point{X: 100000, Y: 99999}), climb(), 1000, api.MaxTick, api.ErrLarge},
		// The track is none: a tick is not above the one before, is too late, or too long after the first one.
		{path, climb(), 100, 0, api.ErrOrder},
		{path, climb(), 4, api.MaxTick, api.ErrRange}, {path, climb(), 4, api.MaxTick - 3, api.ErrRange},
		{[]api.Point{{}, {X: 1001}}, climb(), 1, 0, api.ErrSpan},
		{path, climb(), math.MaxInt, math.MaxInt, api.ErrRange},
	} {
		l, e := source.Flown(x.path, x.p, x.speed, x.tick)
		is(t, fmt.Sprint("error of Flown ", i), e, x.e)
		is(t, "points beside the error", len(l), 0)
	}
	for i, x := range badProcedures {
		_, e := source.Flown(path, x.p, 0, -1)
		is(t, fmt.Sprint("bad procedure ", i), e, x.e)
	}
}
