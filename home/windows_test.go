package home_test

import (
	"fmt"
	"math"
	"slices"
	"strings"
	"testing"

	"flyover/api"
	"flyover/home"
	"flyover/sound"
)

// loudest returns a home with all numbers at their limits.
func loudest() home.Home {
	w := home.Window{Area: home.MaxArea, Pass: even(1000, 1000)}
	for b := range w.Outside {
		w.Outside[b] = home.MaxOutside
	}
	return home.Home{Name: strings.Repeat("a", api.MaxName), People: home.MaxPeople, Windows: slices.Repeat([]home.Window{w}, home.MaxWindows)}
}

// P8.1: homes with each limit, and beyond it.
func TestCheckHome(t *testing.T) {
	set := func(f func(w *home.Window)) home.Home { return changedHouse(func(h *home.Home) { f(&h.Windows[1]) }) }
	pass := func(band, low, high int) home.Home {
		return set(func(w *home.Window) { w.Pass[band] = to(low, high) })
	}
	for i, x := range []struct {
		h home.Home
		e api.Errno
	}{
		{house(), api.OK}, {loudest(), api.OK}, {home.Home{}, api.ErrName}, {home.Home{Name: "a", Windows: []home.Window{{Area: 1}}}, api.OK},
		{changedHouse(func(h *home.Home) { h.Name = strings.Repeat("a", 25) }), api.ErrName}, {changedHouse(func(h *home.Home) { h.Name = "a b" }), api.ErrName}, {changedHouse(func(h *home.Home) { h.Name = "_" }), api.ErrName},
		{changedHouse(func(h *home.Home) { h.People = 0 }), api.OK}, {changedHouse(func(h *home.Home) { h.People = -1 }), api.ErrRange}, {changedHouse(func(h *home.Home) { h.People = math.MinInt }), api.ErrRange},
		{changedHouse(func(h *home.Home) { h.Windows = []home.Window{} }), api.ErrEmpty}, {changedHouse(func(h *home.Home) { h.Windows = slices.Repeat(h.Windows, 4) }), api.OK}, {changedHouse(func(h *home.Home) { h.Windows = slices.Repeat(h.Windows, 5) }), api.ErrMany},
		{set(func(w *home.Window) { w.Outside[0] = -1 }), api.ErrRange}, {set(func(w *home.Window) { w.Outside[7] = 100000000 }), api.OK}, {set(func(w *home.Window) { w.Outside[7] = 100000001 }), api.ErrRange},
		{set(func(w *home.Window) { w.Area = 0 }), api.ErrRange}, {set(func(w *home.Window) { w.Area = 1 }), api.OK}, {set(func(w *home.Window) { w.Area = 101 }), api.ErrRange}, {set(func(w *home.Window) { w.Area = -5 }), api.ErrRange},
		{pass(0, 0, 1000), api.OK}, {pass(7, 1000, 1000), api.OK}, {pass(7, 0, 0), api.OK}, {pass(7, -1, 5), api.ErrRange}, {pass(7, 5, 1001), api.ErrRange}, {pass(7, 1001, 5), api.ErrRange}, {pass(0, 5, -1), api.ErrRange}, {pass(0, 5, 4), api.ErrOrder}, {pass(0, math.MaxInt, math.MinInt), api.ErrRange},
		// Of what passes the first band with an error decides, and of windows the first one.
		{set(func(w *home.Window) { w.Pass[2], w.Pass[3] = to(5, 4), to(-1, 0) }), api.ErrOrder}, {set(func(w *home.Window) { w.Pass[2], w.Pass[3] = to(-1, 0), to(5, 4) }), api.ErrRange},
		{changedHouse(func(h *home.Home) { h.Windows[0].Pass[7], h.Windows[1].Outside[0] = to(5, 4), -1 }), api.ErrOrder},
	} {
		is(t, fmt.Sprint("CheckHome ", i), home.CheckHome(x.h), x.e)
	}
}

// P8.1: the energies outdoors and indoors, and their levels.
func TestEnergies(t *testing.T) {
	single := func(outside api.Spectrum, area int, pass [api.MaxBands]api.Interval) home.Home {
		return home.Home{Name: "s", Windows: []home.Window{{Outside: outside, Area: area, Pass: pass}}}
	}
	mixed := even(0, 1000)
	mixed[0], mixed[7] = to(100, 200), to(999, 1000)
	for i, x := range []struct {
		h       home.Home
		outdoor int
		indoor  api.Interval
		levels  [2]int
	}{
		{house(), 3000, to(180, 360), [2]int{12, 15}}, {loudest(), 800000000, to(6400000000, 6400000000), [2]int{88, 88}},
		{changedHouse(func(h *home.Home) { h.Windows = h.Windows[:1] }), 3000, to(150, 300), [2]int{11, 14}}, {changedHouse(func(h *home.Home) { h.Windows = h.Windows[1:] }), 3000, to(30, 60), [2]int{4, 7}},
		// The loudest window is that with the greatest sum, wherever it is.
		{changedHouse(func(h *home.Home) { h.Windows[1].Outside = api.Spectrum{0, 0, 0, 0, 0, 0, 1, 3000} }), 3001, to(180, 361), [2]int{12, 15}}, {changedHouse(func(h *home.Home) { h.Windows[0].Outside = api.Spectrum{3000, 1} }), 3001, to(180, 361), [2]int{12, 15}}, {changedHouse(func(h *home.Home) { h.Windows[1].Outside = api.Spectrum{2500, 100} }), 3000, to(176, 352), [2]int{12, 15}},
		{single(api.Spectrum{}, 100, even(1000, 1000)), 0, to(0, 0), [2]int{-1, -1}}, {single(api.Spectrum{5}, 100, even(0, 0)), 5, to(0, 0), [2]int{-1, -1}}, {single(api.Spectrum{9, 1}, 100, even(900, 1000)), 10, to(9, 10), [2]int{-1, 0}},
		// Rounded once in each window: down and up.
		{single(api.Spectrum{1}, 1, even(1, 1)), 1, to(0, 1), [2]int{-1, -1}}, {single(api.Spectrum{1, 1, 1, 1, 1, 1, 1, 1}, 25, even(500, 500)), 8, to(1, 1), [2]int{-1, -1}}, {single(api.Spectrum{7, 0, 0, 0, 0, 0, 0, 3}, 99, even(500, 501)), 10, to(4, 5), [2]int{-1, -1}},
		{single(api.Spectrum{10, 20, 0, 0, 0, 0, 0, 30}, 50, mixed), 60, to(15, 26), [2]int{1, 4}}, {changedHouse(func(h *home.Home) {
			h.Windows = slices.Repeat([]home.Window{{Outside: api.Spectrum{1}, Area: 1, Pass: even(1, 1)}}, 8)
		}), 1, to(0, 8), [2]int{-1, -1}},
	} {
		outdoor, e := home.Outdoor(x.h)
		is(t, fmt.Sprint("Outdoor ", i), outdoor, x.outdoor)
		is(t, "error of Outdoor", e, api.OK)
		indoor, e := home.Indoor(x.h)
		is(t, fmt.Sprint("Indoor ", i), indoor, x.indoor)
		is(t, "error of Indoor", e, api.OK)
		levels, e := home.Levels(x.h)
		is(t, fmt.Sprint("Levels ", i), levels, x.levels)
		is(t, "error of Levels", e, api.OK)
	}
}

// P8.1: the errors of homes.
func TestHomeErrors(t *testing.T) {
	inOrder(t, "CheckHome", func(a arguments) (api.Errno, bool) { return home.CheckHome(a.home), true }, homeFaults())
	inOrder(t, "Outdoor", func(a arguments) (api.Errno, bool) {
		n, e := home.Outdoor(a.home)
		return e, n == 0
	}, homeFaults())
	inOrder(t, "Indoor", func(a arguments) (api.Errno, bool) {
		x, e := home.Indoor(a.home)
		return e, x == to(0, 0)
	}, homeFaults())
	inOrder(t, "Levels", func(a arguments) (api.Errno, bool) {
		l, e := home.Levels(a.home)
		return e, l == [2]int{}
	}, homeFaults())
}

// part returns a window's share of an energy by what passes in each band, times 100000.
func part(w home.Window, pass func(band int) int) int {
	sum := 0
	for band, n := range w.Outside {
		for range w.Area {
			sum += n * pass(band)
		}
	}
	return sum
}

// indoorOf returns the indoor energy of a home by the definition.
func indoorOf(h home.Home) api.Interval {
	var x api.Interval
	for _, w := range h.Windows {
		low := part(w, func(band int) int { return w.Pass[band].Low })
		high := part(w, func(band int) int { return w.Pass[band].High })
		x.Low += low / 100000
		x.High += high / 100000
		if high%100000 != 0 {
			x.High++
		}
	}
	return x
}

// P8.1: energies and levels by the definition.
func TestEnergiesByDefinition(t *testing.T) {
	r := seeded()
	for range 3000 {
		h := someHome(r, "h", 8)
		what := fmt.Sprint(h)
		outdoor := 0
		for _, w := range h.Windows {
			sum := 0
			for _, n := range w.Outside {
				sum += n
			}
			outdoor = max(outdoor, sum)
		}
		n, e := home.Outdoor(h)
		is(t, "Outdoor of "+what, n, outdoor)
		is(t, "error of Outdoor of "+what, e, api.OK)
		x, e := home.Indoor(h)
		is(t, "Indoor of "+what, x, indoorOf(h))
		is(t, "error of Indoor of "+what, e, api.OK)
		l, e := home.Levels(h)
		is(t, "error of Levels of "+what, e, api.OK)
		for i, energy := range []int{x.Low, x.High} {
			steps, _ := sound.Range(l[i])
			is(t, "Levels of "+what, energy >= steps.Low && energy <= steps.High, true)
		}
	}
}
