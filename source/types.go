package source

import (
	"slices"
	"sort"

	"flyover/api"
	"flyover/check"
	"flyover/list"
	"flyover/sound"
)

// checkName returns ErrName for a string that is not a name, or OK.
func checkName(s string) api.Errno {
	if !sound.IsName(s) {
		return api.ErrName
	}
	return api.OK
}

// checkFactor returns ErrRange for a share, or a factor Side, that is not from 0 to Whole, or OK.
func checkFactor(n int) api.Errno {
	return check.Within(n, 0, Whole)
}

func checkDirect(n int) api.Errno {
	return check.Within(n, 0, MaxDirect)
}

func checkSquare(n int) api.Errno {
	return check.Within(n, 0, MaxSquare)
}

func checkEmission(n int) api.Errno {
	return check.Within(n, 0, MaxEmission)
}

// CheckType returns the first error of a type, or OK.
func CheckType(t Type) api.Errno {
	if e := check.First(
		checkName(t.Name),
		checkShares(t.Shares),
		check.Each(t.Direct[:], checkDirect),
		checkFactor(t.Side),
		checkSquares(t.Squares),
		check.Count(t.Settings, MaxSettings),
	); e != api.OK {
		return e
	}
	// No setting without an error is below this one, so that the first setting needs no rules of its own.
	before := Setting{Energies: make([]int, len(t.Squares))}
	for _, s := range t.Settings {
		if e := s.check(before); e != api.OK {
			return e
		}
		before = s
	}
	return api.OK
}

// checkShares returns the first error of the shares of a type, or OK.
func checkShares(l []int) api.Errno {
	if e := check.First(check.Count(l, api.MaxBands), check.Each(l, checkFactor)); e != api.OK {
		return e
	}
	left := Whole
	for _, n := range l {
		left -= n
	}
	if left != 0 {
		return api.ErrForm
	}
	return api.OK
}

// checkSquares returns the first error of the squares of a type, or OK.
func checkSquares(l []int) api.Errno {
	if e := check.First(check.Count(l, MaxReaches), check.Each(l, checkSquare)); e != api.OK {
		return e
	}
	if l[0] != 0 {
		return api.ErrOrder
	}
	for i, n := range l[1:] {
		if n <= l[i] {
			return api.ErrOrder
		}
	}
	return api.OK
}

// check returns the first error of a setting that comes after one without an error, or OK.
func (s Setting) check(before Setting) api.Errno {
	if e := checkPower(s.Power); e != api.OK {
		return e
	}
	if s.Power <= before.Power {
		return api.ErrOrder
	}
	if len(s.Energies) != len(before.Energies) {
		return api.ErrShape
	}
	if e := check.Each(s.Energies, checkEmission); e != api.OK {
		return e
	}
	for i, n := range s.Energies {
		if n < before.Energies[i] || n > s.Energies[max(i-1, 0)] {
			return api.ErrRule
		}
	}
	return api.OK
}

// reach returns the greatest index of a square that is not above a squared distance.
func (t Type) reach(square int) int {
	return sort.SearchInts(t.Squares, square+1) - 1
}

// emission returns that of a power at a squared distance.
func (t Type) emission(power, square int) int {
	reach := t.reach(square)
	next := slices.IndexFunc(t.Settings, func(s Setting) bool { return s.Power >= power })
	if next < 0 {
		return t.Settings[len(t.Settings)-1].Energies[reach]
	}
	b := t.Settings[next]
	if next == 0 {
		return b.Energies[reach]
	}
	a := t.Settings[next-1]
	return between(a.Energies[reach], b.Energies[reach], power-a.Power, b.Power-a.Power)
}

// Emission returns the emission of a power at a squared distance.
func Emission(t Type, power, square int) (int, api.Errno) {
	if e := check.First(CheckType(t), checkPower(power), checkSquare(square)); e != api.OK {
		return 0, e
	}
	return t.emission(power, square), api.OK
}

// sector returns that of a direction, seen from a heading.
func sector(heading, x api.Point) int {
	u := heading.X*x.X + heading.Y*x.Y
	v := heading.X*x.Y - heading.Y*x.X
	switch {
	case u > v && v >= 0, u == 0 && v == 0:
		return 0
	case v >= u && u > 0:
		return 1
	case v > -u && -u >= 0:
		return 2
	case -u >= v && v > 0:
		return 3
	case -u > -v && -v >= 0:
		return 4
	case -v >= -u && -u > 0:
		return 5
	case -v > u && u >= 0:
		return 6
	}
	return 7
}

// Sector returns the sector of a direction, seen from a heading.
func Sector(heading, x api.Point) (int, api.Errno) {
	if e := check.First(checkDirection(heading), checkDirection(x)); e != api.OK {
		return 0, e
	}
	return sector(heading, x), api.OK
}

func (s State) check() api.Errno {
	return check.First(checkPlace(s.At), checkDirection(s.Heading), checkPower(s.Power))
}

// heard returns what is heard of a type in a state at a receiver.
func (t Type) heard(s State, receiver api.Vector) int {
	way := minus(receiver, s.At)
	energy := t.emission(s.Power, square(way)) * t.Direct[sector(s.Heading, flat(way))]
	if steep := (pair{levelSquare(way), 4 * way.Z * way.Z}).ascending(); steep {
		return energy / Whole
	}
	// One division by both factors: two would round twice.
	return energy * t.Side / (Whole * Whole)
}

// Heard returns what is heard at a receiver.
func Heard(t Type, s State, receiver api.Vector) (int, api.Errno) {
	if e := check.First(CheckType(t), s.check(), checkPlace(receiver)); e != api.OK {
		return 0, e
	}
	return t.heard(s, receiver), api.OK
}

// Banded returns an energy by bands.
func Banded(t Type, energy int) ([]int, api.Errno) {
	if e := check.First(CheckType(t), sound.CheckEnergy(energy)); e != api.OK {
		return nil, e
	}
	left := energy
	bands := list.Mapped(t.Shares, func(share int) int {
		part := energy * share / Whole
		left -= part
		return part
	})
	bands[0] += left
	return bands, api.OK
}
