package town_test

import (
	"fmt"
	"math"
	"testing"

	"flyover/api"
	"flyover/town"
)

// steps returns a table, by pairs of a depth and a factor.
func steps(l ...int) []town.Step {
	var out []town.Step
	for i := 0; i+1 < len(l); i += 2 {
		out = append(out, town.Step{From: l[i], Factor: l[i+1]})
	}
	return out
}

// longTable returns a table with n steps.
func longTable(n int) []town.Step {
	var l []town.Step
	for i := range n {
		l = append(l, town.Step{From: i + 1, Factor: 900})
	}
	return l
}

// P4.2: the errors of tables, in their order.
func TestCheckTable(t *testing.T) {
	for i, x := range []struct {
		l []town.Step
		e api.Errno
	}{
		{table(), api.OK}, {steps(1, 1000), api.OK}, {steps(1000000, 0), api.OK}, {steps(1, 5, 2, 5, 3, 0, 4, 0), api.OK}, {longTable(16), api.OK},
		{nil, api.ErrEmpty}, {longTable(17), api.ErrMany}, {make([]town.Step, 17), api.ErrMany}, {make([]town.Step, 16), api.ErrRange},
		{steps(0, 5), api.ErrRange}, {steps(-1, 5), api.ErrRange}, {steps(1000001, 5), api.ErrRange}, {steps(1, -1), api.ErrRange}, {steps(1, 1001), api.ErrRange},
		{steps(2, 5, 0, 5), api.ErrRange}, {steps(2, 5, 1, 1001), api.ErrRange}, {steps(2, 5, 3, -1), api.ErrRange}, {steps(2, 5, 1000001, 5), api.ErrRange},
		{steps(1, 5, 1, 4), api.ErrOrder}, {steps(2, 5, 1, 4), api.ErrOrder}, {steps(1, 5, 2, 6), api.ErrOrder}, {steps(1, 5, 2, 4, 3, 5), api.ErrOrder}, {steps(1, 5, 3, 4, 2, 3), api.ErrOrder},
		{steps(1, 5, 1, 4, 0, 0), api.ErrOrder}, {steps(1, 5, 0, 4, 1, 9), api.ErrRange}, {steps(math.MinInt, math.MaxInt), api.ErrRange},
	} {
		is(t, fmt.Sprint("CheckTable ", i), town.CheckTable(x.l), x.e)
	}
}

// P4.2: factors of depths.
func TestFactor(t *testing.T) {
	for i, x := range []struct {
		l        []town.Step
		depth, n int
		e        api.Errno
	}{
		{table(), 0, 1000, api.OK}, {table(), 1, 800, api.OK}, {table(), 2, 800, api.OK}, {table(), 3, 500, api.OK}, {table(), 10, 500, api.OK}, {table(), 1000000, 500, api.OK},
		{steps(5, 0), 4, 1000, api.OK}, {steps(5, 0), 5, 0, api.OK}, {steps(1000000, 7), 999999, 1000, api.OK}, {steps(1000000, 7), 1000000, 7, api.OK},
		{longTable(16), 16, 900, api.OK}, {steps(1, 9, 2, 9, 3, 8), 2, 9, api.OK}, {steps(1, 9, 2, 9, 3, 8), 3, 8, api.OK},
		{table(), -1, 0, api.ErrRange}, {table(), 1000001, 0, api.ErrRange}, {nil, -1, 0, api.ErrEmpty}, {steps(1, 5, 1, 5), -1, 0, api.ErrOrder},
	} {
		n, e := town.Factor(x.l, x.depth)
		is(t, fmt.Sprint("Factor ", i), n, x.n)
		is(t, fmt.Sprint("error of Factor ", i), e, x.e)
	}
}

// P4.2: energies after a path, without reflections.
func TestScreened(t *testing.T) {
	path, mirrored, back := [2]api.Vector{spotS, spotR}, [2]api.Vector{spotS, spotQ}, [2]api.Vector{spotS, spotS}
	w := []town.Wall{screen(6)}
	for i, x := range []struct {
		l      []town.Wall
		table  []town.Step
		path   [2]api.Vector
		energy int
		x      api.Interval
		e      api.Errno
	}{
		{w, table(), path, 1001, of(800, 801), api.OK}, {nil, table(), path, 1001, of(1001, 1001), api.OK}, {[]town.Wall{screen(60)}, table(), path, 1001, of(500, 501), api.OK},
		{w, table(), path, 0, of(0, 0), api.OK}, {w, table(), path, 1, of(0, 1), api.OK}, {w, table(), path, api.MaxEnergy, of(8000000000000, 8000000000000), api.OK},
		{w, table(), path, api.MaxEnergy - 1, of(7999999999999, 8000000000000), api.OK}, {w, steps(1, 0), path, 77, of(0, 0), api.OK}, {w, steps(3, 0), path, 77, of(77, 77), api.OK},
		// The depths are added up before the factor is found: 2 and 2 are 4.
		{append(w, wall("v", point(2, -30), point(2, 30), 6)), steps(3, 700, 4, 10), path, 1000, of(10, 10), api.OK},
		{w, table(), mirrored, 1000, of(1000, 1000), api.OK}, {w, table(), back, 1000, of(1000, 1000), api.OK},
		{w, table(), path, -1, of(0, 0), api.ErrRange}, {w, table(), path, api.MaxEnergy + 1, of(0, 0), api.ErrRange},
		{w, table(), [2]api.Vector{far, spotR}, 5, of(0, 0), api.ErrRange}, {w, table(), [2]api.Vector{spotS, far}, 5, of(0, 0), api.ErrRange},
		{w, nil, [2]api.Vector{far, spotR}, -1, of(0, 0), api.ErrEmpty}, {w, steps(1, 5, 1, 5), [2]api.Vector{spotS, far}, -1, of(0, 0), api.ErrOrder},
		{[]town.Wall{badWall()}, nil, [2]api.Vector{far, far}, -1, of(0, 0), api.ErrConflict}, {make([]town.Wall, 33), nil, path, 5, of(0, 0), api.ErrMany},
	} {
		a, e := town.Screened(x.l, x.table, x.path, x.energy)
		is(t, fmt.Sprint("Screened ", i), a, x.x)
		is(t, fmt.Sprint("error of Screened ", i), e, x.e)
		if x.path == mirrored || x.path == back {
			continue
		}
		a, e = town.Heard(x.l, x.table, x.path, x.energy)
		is(t, fmt.Sprint("Heard ", i), a, x.x)
		is(t, fmt.Sprint("error of Heard ", i), e, x.e)
	}
}

// P4.2: what is heard, with reflections.
func TestHeard(t *testing.T) {
	w := []town.Wall{screen(6)}
	path := [2]api.Vector{spotS, spotQ}
	most := api.MaxEnergy * 2 / 3
	// Behind S and Q there is a second mirror, on the line X = -10.
	two := append(w, town.Wall{Name: "v", A: point(-10, -10), B: point(-10, 10), Height: 6, Echo: 1})
	// A low wall between S and Q has the depth 1 for the straight path, and its end is in the way of the second mirror.
	screened := append(two, wall("u", point(-8, 3), point(-4, 3), 3))
	// Without an echo.
	dull := []town.Wall{changed(func(w *town.Wall) { w.Echo = 0 })}
	for i, x := range []struct {
		l      []town.Wall
		energy int
		x      api.Interval
		e      api.Errno
	}{
		{w, 1000, of(1500, 1500), api.OK}, {w, 1001, of(1501, 1502), api.OK}, {nil, 1001, of(1001, 1001), api.OK}, {dull, 1001, of(1001, 1001), api.OK},
		// Each part is rounded: 500.5 and 1.001.
		{two, 1001, of(1502, 1504), api.OK}, {two, 1000, of(1501, 1501), api.OK}, {two, 0, of(0, 0), api.OK}, {two, 1, of(1, 3), api.OK},
		{screened, 1001, of(1300, 1302), api.OK},
		{w, most, of(most+most/2, most+most/2), api.OK}, {w, most + 1, of(0, 0), api.ErrLarge}, {w, api.MaxEnergy, of(0, 0), api.ErrLarge}, {dull, api.MaxEnergy, of(api.MaxEnergy, api.MaxEnergy), api.OK},
		{w, api.MaxEnergy + 1, of(0, 0), api.ErrRange}, {w, -1, of(0, 0), api.ErrRange},
	} {
		a, e := town.Heard(x.l, table(), path, x.energy)
		is(t, fmt.Sprint("Heard ", i), a, x.x)
		is(t, fmt.Sprint("error of Heard ", i), e, x.e)
	}
}

// P4.2: what is heard is what is screened, and what each mirror leaves.
func TestHeardByParts(t *testing.T) {
	r := seeded()
	echoes := 0
	for range 2000 {
		l, energy := someWalls(r, from(r, 0, 6), 12), from(r, 0, 100000)
		ends, steps := [2]api.Vector{someSpot(r, 12), someSpot(r, 12)}, someTable(r)
		heard, e := town.Heard(l, steps, ends, energy)
		is(t, "error of Heard", e, api.OK)
		_, depth, _ := town.Depths(l, ends[0], ends[1])
		factor, e := town.Factor(steps, depth)
		is(t, "error of Factor", e, api.OK)
		want := of(energy*factor/1000, (energy*factor+999)/1000)
		direct, _ := town.Screened(l, steps, ends, energy)
		is(t, fmt.Sprint("Screened of ", l, ends, energy), direct, want)
		mirrors, _ := town.Mirrors(l, ends[0], ends[1])
		for _, x := range mirrors {
			want.Low += energy * l[x.Wall].Echo / 1000
			want.High += (energy*l[x.Wall].Echo + 999) / 1000
			echoes++
		}
		is(t, fmt.Sprint("Heard of ", l, ends, energy), heard, want)
	}
	is(t, "many are reflected", echoes > 300, true)
}
