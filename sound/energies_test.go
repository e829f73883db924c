package sound_test

import (
	"fmt"
	"math"
	"slices"
	"testing"

	"flyover/api"
	"flyover/sound"
)

// thresholds has those of all levels, by the definition.
func thresholds() []int {
	var l []int
	for ten := 1; len(l) <= api.MaxLevel; ten *= 10 {
		for _, n := range []int{10, 13, 16, 20, 25, 32, 40, 50, 63, 79} {
			l = append(l, n*ten)
		}
	}
	return l[:api.MaxLevel+1]
}

var badEnergies = []struct {
	l []int
	e api.Errno
}{
	{[]int{-1}, api.ErrRange},
	{[]int{1, api.MaxEnergy + 1}, api.ErrRange},
	{[]int{math.MinInt, math.MaxInt}, api.ErrRange},
	{make([]int, 1025), api.ErrMany},
	{spoilt(1025, 0, -1), api.ErrMany},
	{spoilt(1024, 1023, -1), api.ErrRange},
}

// P1.2: energies and levels.
func TestLevels(t *testing.T) {
	for k, n := range thresholds() {
		got, e := sound.Threshold(k)
		is(t, fmt.Sprint("Threshold ", k), got, n)
		is(t, "error", e, api.OK)
		for _, x := range []struct{ energy, level int }{{n - 1, k - 1}, {n, k}} {
			level, e := sound.Level(x.energy)
			is(t, fmt.Sprint("Level ", x.energy), level, x.level)
			is(t, "error", e, api.OK)
		}
	}
	for _, x := range []struct{ energy, level int }{{0, -1}, {9, -1}, {12, 0}, {14, 1}, {99, 9}, {101, 10}, {9999999999999, 119}} {
		level, e := sound.Level(x.energy)
		is(t, fmt.Sprint("Level ", x.energy), level, x.level)
		is(t, "error", e, api.OK)
		is(t, "CheckEnergy", sound.CheckEnergy(x.energy), api.OK)
	}
	is(t, "CheckEnergy of the greatest", sound.CheckEnergy(api.MaxEnergy), api.OK)
	for _, n := range []int{-1, api.MaxEnergy + 1, math.MinInt, math.MaxInt} {
		level, e := sound.Level(n)
		is(t, fmt.Sprint("Level ", n), e, api.ErrRange)
		is(t, "level beside the error", level, 0)
		is(t, "CheckEnergy", sound.CheckEnergy(n), api.ErrRange)
	}
	for _, k := range []int{-1, 121, math.MinInt, math.MaxInt} {
		n, e := sound.Threshold(k)
		is(t, fmt.Sprint("Threshold ", k), e, api.ErrRange)
		is(t, "beside the error", n, 0)
	}
}

// P1.2: energies of levels.
func TestRange(t *testing.T) {
	for _, x := range []struct{ k, low, high int }{
		{sound.None, 0, 9},
		{0, 10, 12},
		{3, 20, 24},
		{9, 79, 99},
		{119, 7900000000000, 9999999999999},
		{120, api.MaxEnergy, api.MaxEnergy},
	} {
		r, e := sound.Range(x.k)
		is(t, fmt.Sprint("Range ", x.k), r, api.Interval{Low: x.low, High: x.high})
		is(t, "error", e, api.OK)
	}
	for _, k := range []int{-2, 121, math.MinInt, math.MaxInt} {
		r, e := sound.Range(k)
		is(t, fmt.Sprint("Range ", k), e, api.ErrRange)
		is(t, "beside the error", r, api.Interval{})
	}
}

// P1.2: sums.
func TestSum(t *testing.T) {
	half := slices.Repeat([]int{api.MaxEnergy / 1000}, 1000)
	for i, x := range []struct {
		l []int
		n int
		e api.Errno
	}{
		{nil, 0, api.OK},
		{[]int{200, 40, 5}, 245, api.OK},
		{[]int{api.MaxEnergy, 0}, api.MaxEnergy, api.OK},
		{half, api.MaxEnergy, api.OK},
		{append(slices.Clone(half), 1), 0, api.ErrLarge},
		{slices.Repeat([]int{api.MaxEnergy}, 1024), 0, api.ErrLarge},
		{[]int{api.MaxEnergy, api.MaxEnergy, -1}, 0, api.ErrRange},
	} {
		n, e := sound.Sum(x.l)
		is(t, fmt.Sprint("Sum ", i), n, x.n)
		is(t, fmt.Sprint("error of Sum ", i), e, x.e)
	}
	for i, x := range badEnergies {
		n, e := sound.Sum(x.l)
		is(t, fmt.Sprint("bad Sum ", i), e, x.e)
		is(t, "beside the error", n, 0)
	}
}

// P1.2: averages.
func TestAverage(t *testing.T) {
	for i, x := range []struct {
		l, ticks []int
		n        int
		e        api.Errno
	}{
		{[]int{100, 40}, []int{3, 1}, 85, api.OK},
		{[]int{1, 2}, []int{1, 1}, 2, api.OK}, // 1.5
		{[]int{1, 2}, []int{2, 1}, 1, api.OK}, // 1.33
		{[]int{1, 2}, []int{1, 2}, 2, api.OK}, // 1.67
		{[]int{0, 1}, []int{86399, 1}, 0, api.OK},
		{[]int{0, 1}, []int{43201, 43199}, 0, api.OK},
		{[]int{0, 1}, []int{43200, 43200}, 1, api.OK},
		{[]int{api.MaxEnergy}, []int{86400}, api.MaxEnergy, api.OK},
		{[]int{api.MaxEnergy, api.MaxEnergy - 1}, []int{43200, 43200}, api.MaxEnergy, api.OK},
		{[]int{5, 9}, []int{0, 7}, 9, api.OK},
		{slices.Repeat([]int{7}, 1024), slices.Repeat([]int{84}, 1024), 7, api.OK},
		{nil, nil, 0, api.ErrZero},
		{[]int{5}, []int{0}, 0, api.ErrZero},
		{[]int{5}, nil, 0, api.ErrShape},
		{nil, []int{1}, 0, api.ErrShape},
		{[]int{5}, []int{-1, 5}, 0, api.ErrShape},
		{[]int{-1}, nil, 0, api.ErrRange}, // energies come first
		{[]int{5}, []int{86401}, 0, api.ErrRange},
		{[]int{5, 5}, []int{86400, -1}, 0, api.ErrRange},
		{[]int{5, 5}, []int{0, math.MinInt}, 0, api.ErrRange},
		{[]int{5, 5}, []int{86400, 1}, 0, api.ErrLarge},
		{make([]int, 1025), make([]int, 1025), 0, api.ErrMany},
	} {
		n, e := sound.Average(x.l, x.ticks)
		is(t, fmt.Sprint("Average ", i), n, x.n)
		is(t, fmt.Sprint("error of Average ", i), e, x.e)
	}
}

// P1.2: penalties by the hour.
func TestPenalized(t *testing.T) {
	for _, x := range []struct{ tick, factor int }{
		{0, 10}, {25199, 10}, {25200, 1}, {43200, 1}, {68399, 1}, {68400, 3}, {82799, 3}, {82800, 10}, {86399, 10},
	} {
		n, e := sound.Penalized([]sound.Heard{{Tick: x.tick, Energy: 7}})
		is(t, fmt.Sprint("Penalized at ", x.tick), n, 7*x.factor)
		is(t, "error", e, api.OK)
	}
	const tenth = api.MaxEnergy / 10
	for i, x := range []struct {
		l []sound.Heard
		n int
		e api.Errno
	}{
		{nil, 0, api.OK},
		{[]sound.Heard{{25199, 5}, {25200, 7}, {82799, 2}}, 63, api.OK},
		{[]sound.Heard{{30000, api.MaxEnergy}}, api.MaxEnergy, api.OK},
		{[]sound.Heard{{0, tenth}}, api.MaxEnergy, api.OK},
		{[]sound.Heard{{0, tenth}, {30000, 1}}, 0, api.ErrLarge},
		{slices.Repeat([]sound.Heard{{0, api.MaxEnergy}}, 1024), 0, api.ErrLarge},
		{[]sound.Heard{{86400, 1}}, 0, api.ErrRange},
		{[]sound.Heard{{-1, 1}}, 0, api.ErrRange},
		{[]sound.Heard{{0, -1}}, 0, api.ErrRange},
		{[]sound.Heard{{0, api.MaxEnergy}, {0, api.MaxEnergy + 1}}, 0, api.ErrRange},
		{make([]sound.Heard, 1024), 0, api.OK},
		{make([]sound.Heard, 1025), 0, api.ErrMany},
		{spoilt(1025, 0, sound.Heard{Tick: -1}), 0, api.ErrMany},
	} {
		n, e := sound.Penalized(x.l)
		is(t, fmt.Sprint("Penalized ", i), n, x.n)
		is(t, fmt.Sprint("error of Penalized ", i), e, x.e)
	}
}

// P1.2: the greatest energy.
func TestMaximum(t *testing.T) {
	for i, x := range []struct {
		l     []int
		n, at int
	}{
		{[]int{5, 200, 40, 200}, 200, 1},
		{[]int{0, 0}, 0, 0},
		{[]int{1, 2, 3}, 3, 2},
		{[]int{3, 2, 1}, 3, 0},
		{spoilt(1024, 1023, api.MaxEnergy), api.MaxEnergy, 1023},
	} {
		n, at, e := sound.Maximum(x.l)
		is(t, fmt.Sprint("Maximum ", i), n, x.n)
		is(t, "its index", at, x.at)
		is(t, "error", e, api.OK)
	}
	n, at, e := sound.Maximum(nil)
	is(t, "Maximum of none", e, api.ErrEmpty)
	is(t, "beside the error", n, 0)
	is(t, "beside the error", at, 0)
	for i, x := range badEnergies {
		n, at, e := sound.Maximum(x.l)
		is(t, fmt.Sprint("bad Maximum ", i), e, x.e)
		is(t, "beside the error", n, 0)
		is(t, "beside the error", at, 0)
	}
}

// P1.2: energies above a level.
func TestAbove(t *testing.T) {
	l := []int{5, 200, 40, 200, api.MaxEnergy}
	for _, x := range []struct{ level, n int }{{0, 4}, {6, 4}, {7, 3}, {10, 3}, {13, 3}, {14, 1}, {120, 1}} {
		n, e := sound.Above(l, x.level)
		is(t, fmt.Sprint("Above ", x.level), n, x.n)
		is(t, "error", e, api.OK)
	}
	n, e := sound.Above(nil, 0)
	is(t, "Above of none", n, 0)
	is(t, "error", e, api.OK)
	for _, level := range []int{-1, 121, math.MinInt, math.MaxInt} {
		n, e := sound.Above(l, level)
		is(t, fmt.Sprint("Above ", level), e, api.ErrRange)
		is(t, "beside the error", n, 0)
	}
	for i, x := range badEnergies {
		_, e := sound.Above(x.l, -1)
		is(t, fmt.Sprint("bad Above ", i), e, x.e)
	}
}
