package home

import (
	"slices"

	"flyover/api"
	"flyover/check"
	"flyover/list"
	"flyover/number"
	"flyover/sound"
)

func checkName(s string) api.Errno {
	return check.That(sound.IsName(s), api.ErrName)
}

// checkPass returns the first error of what passes in each band, or OK.
func checkPass(l [api.MaxBands]api.Interval) api.Errno {
	inRange := func(n int) api.Errno { return check.Within(n, 0, Whole) }
	return check.Each(l[:], func(x api.Interval) api.Errno { return check.Interval(x, inRange) })
}

func (w Window) check() api.Errno {
	return check.First(
		check.Each(w.Outside[:], func(n int) api.Errno { return check.Within(n, 0, MaxOutside) }),
		check.Within(w.Area, 1, MaxArea),
		checkPass(w.Pass),
	)
}

// CheckHome returns the first error of a home, or OK.
func CheckHome(h Home) api.Errno {
	return check.First(
		checkName(h.Name),
		check.Within(h.People, 0, MaxPeople),
		check.Count(h.Windows, MaxWindows),
		check.Each(h.Windows, Window.check),
	)
}

// outdoor returns the outdoor energy of a home.
func (h Home) outdoor() int {
	return slices.Max(list.Mapped(h.Windows, func(w Window) int {
		// Those of all bands together are never too large for an energy.
		sum, _ := sound.Sum(w.Outside[:])
		return sum
	}))
}

// Outdoor returns the outdoor energy of a home.
func Outdoor(h Home) (int, api.Errno) {
	if e := CheckHome(h); e != api.OK {
		return 0, e
	}
	return h.outdoor(), api.OK
}

// indoor returns the indoor energy of a window.
func (w Window) indoor() api.Interval {
	// Of silence nothing passes.
	if w.Outside == (api.Spectrum{}) {
		return api.Interval{}
	}
	var sum api.Interval
	for band := range api.MaxBands {
		sum.Low += w.Outside[band] * w.Pass[band].Low
		sum.High += w.Outside[band] * w.Pass[band].High
	}
	const all = Whole * MaxArea
	return api.Interval{Low: number.Down(sum.Low*w.Area, all), High: number.Up(sum.High*w.Area, all)}
}

// indoor returns the indoor energy of a home.
func (h Home) indoor() api.Interval {
	var sum api.Interval
	for _, w := range h.Windows {
		x := w.indoor()
		sum.Low += x.Low
		sum.High += x.High
	}
	return sum
}

// Indoor returns the indoor energy of a home.
func Indoor(h Home) (api.Interval, api.Errno) {
	if e := CheckHome(h); e != api.OK {
		return api.Interval{}, e
	}
	return h.indoor(), api.OK
}

// level returns that of what is an energy.
func level(energy int) int {
	n, _ := sound.Level(energy)
	return n
}

// Levels returns the levels of the indoor energy.
func Levels(h Home) ([2]int, api.Errno) {
	x, e := Indoor(h)
	if e != api.OK {
		return [2]int{}, e
	}
	return [2]int{level(x.Low), level(x.High)}, api.OK
}
