package home

import (
	"slices"

	"flyover/api"
	"flyover/check"
	"flyover/sound"
)

// verdicts has the words of verdicts, by how what was measured compares with what was planned: below it, otherwise, above it.
var verdicts = [3]string{"better", "as planned", "worse"}

// CheckMeasures returns the first error of a home and measures, or OK.
func CheckMeasures(h Home, l []Measure) api.Errno {
	if e := CheckHome(h); e != api.OK {
		return e
	}
	return check.Named(l, MaxMeasures, func(m Measure, once check.Once) api.Errno {
		return check.First(
			checkName(m.Name),
			once(m.Name),
			check.Index(h.Windows, m.Window),
			check.Within(m.Cost, 0, MaxCost),
			checkPass(m.Pass),
		)
	})
}

// checkIndices returns ErrUnknown for the first index that no element of a list has, then ErrOrder if one is not above the one before it, or OK.
func checkIndices[T any](l []T, indices []int) api.Errno {
	return check.First(
		check.Each(indices, func(i int) api.Errno { return check.Index(l, i) }),
		check.Ascending(indices, func(int) api.Errno { return api.OK }),
	)
}

// conflict reports whether two measures of some are for one window.
func conflict(l []Measure, indices []int) bool {
	taken := map[int]bool{}
	for _, i := range indices {
		if taken[l[i].Window] {
			return true
		}
		taken[l[i].Window] = true
	}
	return false
}

// checkSet returns the first error of a home, measures and a set of them, or OK.
func checkSet(h Home, l []Measure, indices []int) api.Errno {
	if e := check.First(CheckMeasures(h, l), checkIndices(l, indices)); e != api.OK {
		return e
	}
	return check.That(!conflict(l, indices), api.ErrConflict)
}

// with returns a window after a measure.
func (w Window) with(m Measure) Window {
	w.Pass = m.Pass
	return w
}

// after returns a home after a set of measures.
func (h Home) after(l []Measure, indices []int) Home {
	h.Windows = slices.Clone(h.Windows)
	for _, i := range indices {
		at := l[i].Window
		h.Windows[at] = h.Windows[at].with(l[i])
	}
	return h
}

// After returns the home after a set of measures.
func After(h Home, l []Measure, set []int) (Home, api.Errno) {
	if e := checkSet(h, l, set); e != api.OK {
		return Home{}, e
	}
	return h.after(l, set), api.OK
}

// Suffices reports whether a set suffices for a target.
func Suffices(h Home, l []Measure, set []int, target int) (bool, api.Errno) {
	if e := check.First(checkSet(h, l, set), sound.CheckEnergy(target)); e != api.OK {
		return false, e
	}
	return h.after(l, set).indoor().High <= target, api.OK
}

// beside returns -1 if an interval lies below another one, 1 if it lies above it, and otherwise 0.
func beside(x, y api.Interval) int {
	switch {
	case x.High < y.Low:
		return -1
	case x.Low > y.High:
		return 1
	}
	return 0
}

// Verdict returns the verdict on a home that was built.
func Verdict(h Home, l []Measure, set []int, measured api.Interval) (string, api.Errno) {
	if e := check.First(checkSet(h, l, set), check.Interval(measured, sound.CheckEnergy)); e != api.OK {
		return "", e
	}
	planned := h.after(l, set).indoor()
	return verdicts[1+beside(measured, planned)], api.OK
}
