package scenario_test

import (
	"fmt"
	"math"
	"math/big"
	"slices"
	"testing"

	"flyover/api"
	"flyover/contour"
	"flyover/scenario"
	"flyover/sound"
)

// pairs returns those with integers, of which each has two.
func pairs(l ...int) []scenario.Pair {
	var p []scenario.Pair
	for x := range slices.Chunk(l, 2) {
		p = append(p, pair(x[0], x[1]))
	}
	return p
}

// P9.3: corrections by pairs.
func TestCorrection(t *testing.T) {
	for i, x := range []struct {
		l []scenario.Pair
		n int
		e api.Errno
	}{
		{pairs(100, 110, 200, 190, 100, 140), 1100, api.OK}, {pairs(1, 0, 1, 0, 1, 0), 0, api.OK}, {pairs(1, 2, 1, 0, 1, 1), 1000, api.OK}, {pairs(0, 1, 0, 1, 2000, 1), 2, api.OK}, {pairs(0, 0, 0, 0, 1, 0), 0, api.OK}, {pairs(3, 1, 0, 0, 0, 0), 333, api.OK}, {pairs(3, 2, 0, 0, 0, 0), 667, api.OK}, {pairs(0, 100, 0, 200, 300, 0), 1000, api.OK},
		// From the middle to the greater one.
		{pairs(2000, 1, 0, 0, 0, 0), 1, api.OK}, {pairs(2001, 1, 0, 0, 0, 0), 0, api.OK}, {pairs(2000, 3, 0, 0, 0, 0), 2, api.OK}, {pairs(10000, 20005, 10000, 0, 0, 0), 1000, api.OK}, {pairs(2000, 2001, 0, 0, 0, 0), 1001, api.OK}, {pairs(2000, 1999, 0, 0, 0, 0), 1000, api.OK},
		{pairs(1, 4, 0, 0, 0, 0), 4000, api.OK}, {pairs(10000, 40004, 0, 0, 0, 0), 4000, api.OK}, {pairs(10000, 40005, 0, 0, 0, 0), 0, api.ErrLarge}, {pairs(1, 5, 0, 0, 0, 0), 0, api.ErrLarge}, {pairs(1, most, 0, 0, 0, 0), 0, api.ErrLarge}, {pairs(0, 5, 0, 5, 0, 5), 0, api.ErrZero}, {pairs(0, 0, 0, 0, 0, 0), 0, api.ErrZero},
		{alike(64, pair(most, most)), 1000, api.OK}, {append(alike(63, pair(most, most)), pair(most, 0)), 984, api.OK}, {alike(64, pair(most/4, most)), 4000, api.OK}, {append(alike(63, pair(0, most)), pair(1, most)), 0, api.ErrLarge}, {append(alike(63, pair(most, 0)), pair(most, most)), 16, api.OK}, {alike(64, pair(0, most)), 0, api.ErrZero},
		{alike(65, pair(1, 1)), 0, api.ErrMany}, {alike(2, pair(1, 1)), 0, api.ErrShort}, {nil, 0, api.ErrShort}, {alike(2, pair(0, 1)), 0, api.ErrShort}, {alike(3, pair(1, 1)), 1000, api.OK}, {alike(65, pair(-1, 1)), 0, api.ErrMany},
		{pairs(1, 1, 1, -1), 0, api.ErrRange}, {pairs(-1, 1), 0, api.ErrRange}, {pairs(1, 1, 1, 1, most+1, 1), 0, api.ErrRange}, {pairs(1, 1, 1, 1, 1, most+1), 0, api.ErrRange}, {pairs(0, 1, 0, 1, 0, math.MinInt), 0, api.ErrRange}, {pairs(math.MaxInt, math.MaxInt, 0, 1, 0, 0), 0, api.ErrRange},
	} {
		n, e := scenario.Correction(x.l)
		is(t, fmt.Sprint("Correction ", i), n, x.n)
		is(t, fmt.Sprint("error of Correction ", i), e, x.e)
	}
	inOrder(t, "Correction", func(a arguments) (api.Errno, bool) {
		n, e := scenario.Correction(a.pairs)
		return e, n == 0
	}, pairFaults())
}

// P9.3: types that are corrected.
func TestCorrected(t *testing.T) {
	eighth := []scenario.Pair{pair(8, 9), pair(0, 0), pair(0, 0)}
	third := pairs(3, 1, 0, 0, 0, 0)
	for i, x := range []struct {
		energies []int
		pairs    []scenario.Pair
		want     []int
		e        api.Errno
	}{
		{[]int{10, 10, 10}, right().pairs, []int{11, 11, 11}, api.OK}, {[]int{0, 1, 2}, eighth, []int{0, 1, 2}, api.OK}, {[]int{3, 4, 5}, eighth, []int{3, 5, 6}, api.OK}, {[]int{0, 1, 2}, third, []int{0, 0, 1}, api.OK}, {[]int{100, 101, 102}, third, []int{33, 34, 34}, api.OK},
		// From the middle to the greater one: 1.5 and 2.5, and just below.
		{[]int{1, 3, 5}, pairs(2, 1, 0, 0, 0, 0), []int{1, 2, 3}, api.OK}, {[]int{1, 3, 5}, pairs(1000, 499, 0, 0, 0, 0), []int{0, 1, 2}, api.OK}, {[]int{1, 2, 3}, pairs(1, 0, 1, 0, 1, 0), []int{0, 0, 0}, api.OK}, {[]int{1, 2, 3}, pairs(1, 4, 0, 0, 0, 0), []int{4, 8, 12}, api.OK},
		// The correction itself is rounded first: 1.0005 is 1001 thousandths.
		{[]int{1000, 2000, 0}, pairs(2000, 2001, 0, 0, 0, 0), []int{1001, 2002, 0}, api.OK},
		{[]int{most, 0, 0}, alike(3, pair(1, 1)), []int{most, 0, 0}, api.OK}, {[]int{most / 4, most / 4, 0}, pairs(1, 4, 0, 0, 0, 0), []int{most, most, 0}, api.OK}, {[]int{0, 0, most/4 + 1}, pairs(1, 4, 0, 0, 0, 0), nil, api.ErrLarge}, {[]int{0, most, 0}, pairs(1000, 1001, 0, 0, 0, 0), nil, api.ErrLarge}, {[]int{0, most, 0}, pairs(10000, 10004, 0, 0, 0, 0), []int{0, most, 0}, api.OK},
	} {
		s := changed(func(s *scenario.Scenario) { s.Types[1].Energies = x.energies })
		want := changed(func(s *scenario.Scenario) { s.Types[1].Energies = x.want })
		got, e := scenario.Corrected(s, "prop", x.pairs)
		isScenario(t, fmt.Sprint("Corrected ", i), got, after(want, x.e))
		is(t, fmt.Sprint("error of Corrected ", i), e, x.e)
	}
	inOrder(t, "Corrected", func(a arguments) (api.Errno, bool) {
		s, e := scenario.Corrected(a.a, a.kind, a.pairs)
		return e, isNothing(s)
	}, faultsOf(first), kindFaults(), pairFaults(), []fault{
		{func(a *arguments) { a.a.Types[1].Energies[2] = most }, api.ErrLarge},
	})
}

// nearest returns n / d, rounded to the nearest integer, from the middle to the greater one.
func nearest(n, d *big.Int) int {
	twice := new(big.Int).Mul(n, big.NewInt(2))
	twice.Add(twice, d)
	return int(twice.Div(twice, new(big.Int).Mul(d, big.NewInt(2))).Int64())
}

// P9.3: corrections and types that are corrected, with integers of any size.
func TestCorrectionsByDefinition(t *testing.T) {
	r := seeded()
	for range 3000 {
		l := somePairs(r)
		predicted, measured := new(big.Int), new(big.Int)
		for _, p := range l {
			predicted.Add(predicted, big.NewInt(int64(p.Predicted)))
			measured.Add(measured, big.NewInt(int64(1000*p.Measured)))
		}
		want := nearest(measured, predicted)
		n, e := scenario.Correction(l)
		if want > 4000 {
			is(t, fmt.Sprint("error of Correction of ", l), e, api.ErrLarge)
			continue
		}
		is(t, fmt.Sprint("Correction of ", l), n, want)
		is(t, fmt.Sprint("error of Correction of ", l), e, api.OK)
		s := someScenario(r, 4, 3, 3)
		k := r.Intn(len(s.Types))
		right := copyOf(s)
		for i, energy := range s.Types[k].Energies {
			right.Types[k].Energies[i] = nearest(big.NewInt(int64(energy*want)), big.NewInt(1000))
		}
		got, e := scenario.Corrected(s, s.Types[k].Name, l)
		isScenario(t, fmt.Sprint("Corrected of ", s, l), got, right)
		is(t, "error of Corrected", e, api.OK)
	}
}

// P9.3: the scores of a scenario.
func TestScored(t *testing.T) {
	// The levels of the map of A are 13, 16 and 14.
	for i, x := range []struct {
		s      scenario.Scenario
		people []int
		level  int
		want   [3]int
		e      api.Errno
	}{
		{airport(), []int{5, 6, 7}, 13, [3]int{18, 14, 29}, api.OK}, {airport(), []int{5, 6, 7}, 14, [3]int{13, 14, 29}, api.OK}, {airport(), []int{5, 6, 7}, 15, [3]int{6, 14, 29}, api.OK}, {airport(), []int{5, 6, 7}, 16, [3]int{6, 14, 29}, api.OK}, {airport(), []int{5, 6, 7}, 17, [3]int{0, 14, 29}, api.OK}, {airport(), []int{5, 6, 7}, 0, [3]int{18, 14, 29}, api.OK}, {airport(), []int{5, 6, 7}, 120, [3]int{0, 14, 29}, api.OK},
		{airport(), []int{0, 1000000, 1000000}, 0, [3]int{2000000, 14, 29}, api.OK}, {day(), []int{5, 6, 7}, 8, [3]int{18, 2, 30}, api.OK}, {day(), []int{5, 6, 7}, 9, [3]int{11, 2, 30}, api.OK}, {flying(), []int{5, 6, 7}, 0, [3]int{0, 0, 32}, api.OK}, {flying(crowd(32)...), []int{5, 6, 7}, 15, [3]int{18, 32, 0}, api.OK}, {flying(crowd(32)...), []int{5, 6, 7}, 16, [3]int{0, 32, 0}, api.OK}, {flying(flight("x", "prop", 0, 16), flight("y", "prop", 19, -16)), []int{5, 6, 7}, 0, [3]int{0, 13, 30}, api.OK},
		{of(1, 1, kinds(kind("jet", most)), flight("x", "jet", 18, 0)), []int{1}, 120, [3]int{1, 1, 31}, api.OK}, {of(1, 1, kinds(kind("jet", most-1)), flight("x", "jet", 7, 0)), []int{1}, 120, [3]int{0, 1, 31}, api.OK}, {of(16, 16, kinds(kind("jet", alike(256, 9)...)), flight("x", "jet", 22, 0)), alike(256, 1000000), 3, [3]int{256000000, 3, 31}, api.OK},
		{airport(), nil, 13, [3]int{}, api.ErrShape}, {airport(), []int{5, 6}, 13, [3]int{}, api.ErrShape}, {airport(), []int{5, 6, 7, 8}, 13, [3]int{}, api.ErrShape}, {airport(), []int{5, 6, -1}, 13, [3]int{}, api.ErrRange}, {airport(), []int{1000001, 6, 7}, 13, [3]int{}, api.ErrRange}, {airport(), []int{5, 6, 7}, 121, [3]int{}, api.ErrRange}, {airport(), []int{5, 6, 7}, -1, [3]int{}, api.ErrRange}, {airport(), []int{5, 6, math.MaxInt}, math.MinInt, [3]int{}, api.ErrRange},
		{of(1, 1, kinds(kind("jet", most)), flight("x", "jet", 19, 0)), []int{1}, 120, [3]int{}, api.ErrLarge},
	} {
		l, e := scenario.Scored(x.s, x.people, x.level)
		is(t, fmt.Sprint("Scored ", i), l, x.want)
		is(t, fmt.Sprint("error of Scored ", i), e, x.e)
	}
	inOrder(t, "Scored", func(a arguments) (api.Errno, bool) {
		l, e := scenario.Scored(a.a, a.people, a.level)
		return e, l == [3]int{}
	}, faultsOf(first), []fault{
		{func(a *arguments) { a.people = []int{-1} }, api.ErrShape},
		{func(a *arguments) { a.people[2] = contour.MaxPeople + 1 }, api.ErrRange},
		{func(a *arguments) { a.level = 121 }, api.ErrRange},
		loud(first),
	})
}

// P9.3: scores by the definition.
func TestScoredByDefinition(t *testing.T) {
	r := seeded()
	some := 0
	for range 1000 {
		s := anyScenario(r, 8)
		level := r.Intn(60)
		var people []int
		var want [3]int
		for _, energy := range mapOf(s) {
			n := r.Intn(contour.MaxPeople + 1)
			people = append(people, n)
			if own, _ := sound.Level(energy); own >= level {
				want[0] += n
			}
		}
		for _, f := range s.Flights {
			want[1] += factorOf(f.Hour)
		}
		want[2] = 32 - len(s.Flights)
		l, e := scenario.Scored(s, people, level)
		is(t, fmt.Sprint("Scored of ", s, people, level), l, want)
		is(t, "error of Scored", e, api.OK)
		if want[0] > 0 {
			some++
		}
	}
	is(t, fmt.Sprint("some have people within the level: ", some), some > 200, true)
}
