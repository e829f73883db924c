package home_test

import (
	"fmt"
	"math"
	"math/rand"
	"slices"
	"strconv"
	"strings"
	"testing"

	"flyover/api"
	"flyover/home"
)

// several returns n measures for the windows of H.
func several(n int) []home.Measure {
	var l []home.Measure
	for i := range n {
		l = append(l, home.Measure{Name: "m" + strconv.Itoa(i), Window: i % 2, Cost: i})
	}
	return l
}

// P8.1: measures with each limit, and beyond it.
func TestCheckMeasures(t *testing.T) {
	for i, x := range []struct {
		l []home.Measure
		e api.Errno
	}{
		{works(), api.OK}, {nil, api.OK}, {several(8), api.OK}, {several(9), api.ErrMany}, {make([]home.Measure, 9), api.ErrMany}, {make([]home.Measure, 8), api.ErrName},
		{changedWorks(func(l []home.Measure) { l[2].Name = strings.Repeat("a", 24) }), api.OK}, {changedWorks(func(l []home.Measure) { l[2].Name = strings.Repeat("a", 25) }), api.ErrName}, {changedWorks(func(l []home.Measure) { l[2].Name = "2" }), api.ErrName}, {changedWorks(func(l []home.Measure) { l[2].Name = "h" }), api.OK},
		{changedWorks(func(l []home.Measure) { l[2].Name = "glass" }), api.ErrTwice}, {changedWorks(func(l []home.Measure) { l[2].Name = "Glass" }), api.OK},
		{changedWorks(func(l []home.Measure) { l[1].Window = -1 }), api.ErrUnknown}, {changedWorks(func(l []home.Measure) { l[1].Window = 2 }), api.ErrUnknown}, {changedWorks(func(l []home.Measure) { l[1].Window = math.MaxInt }), api.ErrUnknown},
		{changedWorks(func(l []home.Measure) { l[1].Cost = 0 }), api.OK}, {changedWorks(func(l []home.Measure) { l[1].Cost = 1000000 }), api.OK}, {changedWorks(func(l []home.Measure) { l[1].Cost = 1000001 }), api.ErrRange}, {changedWorks(func(l []home.Measure) { l[1].Cost = -1 }), api.ErrRange},
		{changedWorks(func(l []home.Measure) { l[1].Pass[7] = to(0, 1000) }), api.OK}, {changedWorks(func(l []home.Measure) { l[1].Pass[7] = to(1000, 1000) }), api.OK}, {changedWorks(func(l []home.Measure) { l[1].Pass[7] = to(0, 1001) }), api.ErrRange}, {changedWorks(func(l []home.Measure) { l[1].Pass[7] = to(-1, 0) }), api.ErrRange}, {changedWorks(func(l []home.Measure) { l[1].Pass[7] = to(1, 0) }), api.ErrOrder},
		// The first measure with an error decides.
		{changedWorks(func(l []home.Measure) { l[0].Pass[0], l[1].Name = to(1, 0), "" }), api.ErrOrder}, {changedWorks(func(l []home.Measure) { l[1].Window, l[2].Name = 7, "glass" }), api.ErrUnknown},
	} {
		is(t, fmt.Sprint("CheckMeasures ", i), home.CheckMeasures(house(), x.l), x.e)
	}
	inOrder(t, "CheckMeasures", func(a arguments) (api.Errno, bool) {
		return home.CheckMeasures(a.home, a.measures), true
	}, homeFaults(), measureFaults())
}

// P8.1: homes after sets, what suffices, and verdicts.
func TestSets(t *testing.T) {
	for i, x := range []struct {
		set    []int
		first  api.Interval
		second api.Interval
		indoor api.Interval
	}{
		{nil, to(100, 200), to(10, 20), to(180, 360)}, {[]int{}, to(100, 200), to(10, 20), to(180, 360)}, {[]int{0}, to(10, 20), to(10, 20), to(45, 90)}, {[]int{1}, to(50, 60), to(10, 20), to(105, 150)},
		{[]int{2}, to(100, 200), to(0, 5), to(150, 315)}, {[]int{0, 2}, to(10, 20), to(0, 5), to(15, 45)}, {[]int{1, 2}, to(50, 60), to(0, 5), to(75, 105)},
	} {
		want := house()
		want.Windows[0].Pass, want.Windows[1].Pass = even(x.first.Low, x.first.High), even(x.second.Low, x.second.High)
		h, e := home.After(house(), works(), x.set)
		isHome(t, fmt.Sprint("After ", i), h, want)
		is(t, "error of After", e, api.OK)
		for _, target := range []int{0, x.indoor.High - 1, x.indoor.High, x.indoor.High + 1, api.MaxEnergy} {
			suffices, e := home.Suffices(house(), works(), x.set, target)
			is(t, fmt.Sprint("Suffices ", i, target), suffices, target >= x.indoor.High)
			is(t, "error of Suffices", e, api.OK)
		}
		for _, y := range []struct {
			measured api.Interval
			word     string
		}{
			{to(0, x.indoor.Low-1), "better"}, {to(0, x.indoor.Low), "as planned"}, {to(x.indoor.Low, x.indoor.High), "as planned"}, {to(x.indoor.High, api.MaxEnergy), "as planned"}, {to(x.indoor.High+1, api.MaxEnergy), "worse"},
			{to(0, api.MaxEnergy), "as planned"}, {to(0, 0), "better"}, {to(api.MaxEnergy, api.MaxEnergy), "worse"}, {to(x.indoor.Low+1, x.indoor.Low+1), "as planned"},
		} {
			word, e := home.Verdict(house(), works(), x.set, y.measured)
			is(t, fmt.Sprint("Verdict ", i, y.measured), word, y.word)
			is(t, "error of Verdict", e, api.OK)
		}
	}
	silent := changedHouse(func(h *home.Home) { h.Windows[0].Outside, h.Windows[1].Outside = api.Spectrum{}, api.Spectrum{} })
	word, _ := home.Verdict(silent, nil, nil, to(0, 0))
	is(t, "Verdict of silence", word, "as planned")
	suffices, _ := home.Suffices(silent, nil, nil, 0)
	is(t, "silence suffices for", suffices, true)
}

// P8.1: the errors of sets; those of all indices come first, then their order, then conflicts.
func TestSetErrors(t *testing.T) {
	for i, x := range []struct {
		l   []home.Measure
		set []int
		e   api.Errno
	}{
		{works(), []int{3}, api.ErrUnknown}, {works(), []int{-1}, api.ErrUnknown}, {works(), []int{math.MinInt}, api.ErrUnknown}, {works(), []int{math.MaxInt}, api.ErrUnknown}, {nil, []int{0}, api.ErrUnknown},
		{works(), []int{2, 0, 3}, api.ErrUnknown}, {works(), []int{0, 1, -1}, api.ErrUnknown}, {works(), []int{0, 0, 9}, api.ErrUnknown}, {works(), []int{2, -1}, api.ErrUnknown},
		{works(), []int{2, 0}, api.ErrOrder}, {works(), []int{0, 0}, api.ErrOrder}, {works(), []int{1, 0}, api.ErrOrder}, {works(), []int{0, 1, 1}, api.ErrOrder}, {works(), []int{0, 1, 2, 0}, api.ErrOrder},
		{works(), []int{0, 1}, api.ErrConflict}, {works(), []int{0, 1, 2}, api.ErrConflict}, {several(8), []int{0, 3}, api.OK}, {several(8), []int{1, 6}, api.OK}, {several(8), []int{1, 6, 7}, api.ErrConflict}, {several(8), []int{0, 1, 2, 3, 4, 5, 6, 7}, api.ErrConflict},
	} {
		h, e := home.After(house(), x.l, x.set)
		is(t, fmt.Sprint("error of After ", i), e, x.e)
		is(t, "a home of After", isNothing(h), x.e != api.OK)
		_, e = home.Suffices(house(), x.l, x.set, 100)
		is(t, fmt.Sprint("error of Suffices ", i), e, x.e)
		_, e = home.Verdict(house(), x.l, x.set, to(1, 2))
		is(t, fmt.Sprint("error of Verdict ", i), e, x.e)
	}
	inOrder(t, "After", func(a arguments) (api.Errno, bool) {
		h, e := home.After(a.home, a.measures, a.set)
		return e, isNothing(h)
	}, homeFaults(), measureFaults(), setFaults())
	inOrder(t, "Suffices", func(a arguments) (api.Errno, bool) {
		suffices, e := home.Suffices(a.home, a.measures, a.set, a.target)
		return e, !suffices
	}, homeFaults(), measureFaults(), setFaults(), targetFaults())
	inOrder(t, "Verdict", func(a arguments) (api.Errno, bool) {
		word, e := home.Verdict(a.home, a.measures, a.set, a.measured)
		return e, word == ""
	}, homeFaults(), measureFaults(), setFaults(), []fault{
		{func(a *arguments) { a.measured = to(-1, -2) }, api.ErrRange},
		{func(a *arguments) { a.measured = to(5, api.MaxEnergy+1) }, api.ErrRange},
		{func(a *arguments) { a.measured = to(api.MaxEnergy+1, 5) }, api.ErrRange},
		{func(a *arguments) { a.measured = to(2, 1) }, api.ErrOrder},
	})
}

// setOf returns the indices that are the bits of a number, and whether they are a set of measures.
func setOf(l []home.Measure, bits int) ([]int, bool) {
	var set []int
	for i := range l {
		if bits>>i&1 == 0 {
			continue
		}
		for _, j := range set {
			if l[j].Window == l[i].Window {
				return nil, false
			}
		}
		set = append(set, i)
	}
	return set, true
}

// afterOf returns a home after a set by the definition.
func afterOf(h home.Home, l []home.Measure, set []int) home.Home {
	after := home.Home{Name: h.Name, People: h.People}
	for at, w := range h.Windows {
		for _, i := range set {
			if l[i].Window == at {
				w.Pass = l[i].Pass
			}
		}
		after.Windows = append(after.Windows, w)
	}
	return after
}

// someMeasured returns an interval of energies of which many touch another one.
func someMeasured(r *rand.Rand, x api.Interval) api.Interval {
	ends := []int{max(0, one(r, x.Low, x.High, r.Intn(100), 0)+from(r, -1, 1)), max(0, one(r, x.Low, x.High, r.Intn(10000), api.MaxEnergy-1)+from(r, -1, 1))}
	return to(slices.Min(ends), slices.Max(ends))
}

// P8.1: homes after sets, what suffices, and verdicts by the definition, for all sets.
func TestSetsByDefinition(t *testing.T) {
	r := seeded()
	kinds := map[string]int{}
	for range 300 {
		h := someHome(r, "h", 4)
		l := someMeasures(r, h, 6)
		for bits := range 1 << len(l) {
			set, ok := setOf(l, bits)
			if !ok {
				continue
			}
			what := fmt.Sprint(set, h, l)
			after, e := home.After(h, l, set)
			isHome(t, "After of "+what, after, afterOf(h, l, set))
			is(t, "error of After", e, api.OK)
			planned := indoorOf(afterOf(h, l, set))
			target := max(0, planned.High+from(r, -1, 1))
			suffices, e := home.Suffices(h, l, set, target)
			is(t, fmt.Sprint("Suffices of ", target, what), suffices, planned.High <= target)
			is(t, "error of Suffices", e, api.OK)
			measured := someMeasured(r, planned)
			word := "as planned"
			if measured.High < planned.Low {
				word = "better"
			}
			if measured.Low > planned.High {
				word = "worse"
			}
			kinds[word]++
			got, e := home.Verdict(h, l, set, measured)
			is(t, fmt.Sprint("Verdict of ", measured, what), got, word)
			is(t, "error of Verdict", e, api.OK)
		}
	}
	for _, word := range []string{"better", "as planned", "worse"} {
		is(t, fmt.Sprint("many of all: ", kinds), kinds[word] > 100, true)
	}
}
