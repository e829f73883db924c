package air

import (
	"slices"

	"flyover/api"
	"flyover/check"
	"flyover/list"
	"flyover/number"
	"flyover/sound"
)

// heights are those of both ends of a path, the lesser one first.
type heights [2]int

func (p Path) heights() heights {
	return heights{min(p.From.Z, p.To.Z), max(p.From.Z, p.To.Z)}
}

// direction returns that of a path.
func (p Path) direction() api.Point {
	return api.Point{X: p.To.X - p.From.X, Y: p.To.Y - p.From.Y}
}

// square returns the square of the length of a path with a difference of its heights.
func (p Path) square(rise int) int {
	along := p.direction()
	return dot(along, along) + rise*rise
}

// dot returns the scalar product of two vectors.
func dot(x, y api.Point) int {
	return x.X*y.X + x.Y*y.Y
}

func checkFar(n int) api.Errno {
	return check.Within(n, -MaxFar, MaxFar)
}

func checkHeight(n int) api.Errno {
	return check.Within(n, 0, MaxHeight)
}

func checkPlace(x api.Vector) api.Errno {
	return check.First(checkFar(x.X), checkFar(x.Y), checkHeight(x.Z))
}

// CheckPath returns the first error of a path, or OK.
func CheckPath(p Path) api.Errno {
	if e := check.First(checkPlace(p.From), checkPlace(p.To)); e != api.OK {
		return e
	}
	if p.From == p.To {
		return api.ErrZero
	}
	return api.OK
}

// Length returns the interval of the length of a path.
func Length(p Path) (api.Interval, api.Errno) {
	if e := CheckPath(p); e != api.OK {
		return api.Interval{}, e
	}
	h := p.heights()
	return number.Root(p.square(h[1]-h[0]), 1), api.OK
}

// spread returns the steps in each layer of a length with this square: in each the part of the whole that f says.
func spread(a []Layer, square, whole int, f func(placed) int) []api.Interval {
	unit := whole * Unit
	return list.Mapped(slices.Collect(layers(a)), func(x placed) api.Interval {
		part := f(x)
		// Squares stay exact, and fit: they are below 2^59.
		return number.Root(square*part*part, unit*unit)
	})
}

// level returns the steps of a length with this square that lies in one layer.
func level(a []Layer, square, index int) []api.Interval {
	return spread(a, square, 1, func(x placed) int {
		if x.index != index {
			return 0
		}
		return 1
	})
}

// directSteps returns the steps of a path in each layer.
func directSteps(a []Layer, p Path) []api.Interval {
	h := p.heights()
	rise := h[1] - h[0]
	if rise == 0 {
		return level(a, p.square(0), layerAt(a, h[0]).index)
	}
	return spread(a, p.square(rise), rise, func(x placed) int { return x.upTo(h[1]) - x.upTo(h[0]) })
}

// Steps returns the interval of the steps of a path in each layer.
func Steps(a []Layer, p Path) ([]api.Interval, api.Errno) {
	if e := check.First(CheckAir(a), CheckPath(p)); e != api.OK {
		return nil, e
	}
	return directSteps(a, p), api.OK
}

// Passed returns the transmittance of a path in each band.
func Passed(a []Layer, p Path) ([]api.Interval, api.Errno) {
	if e := check.First(CheckAir(a), CheckPath(p)); e != api.OK {
		return nil, e
	}
	return passed(a, directSteps(a, p)), api.OK
}

// checkEnergies returns the first error of an energy for each band, or OK.
func checkEnergies(a []Layer, l []int, most int) api.Errno {
	return check.First(
		checkShape(l, bands(a)),
		check.Each(l, func(n int) api.Errno { return check.Within(n, 0, most) }),
	)
}

// arrived returns what arrives of an energy by a transmittance.
func arrived(energy int, pass api.Interval) api.Interval {
	return both(func(r rounding) int { return r.divided(energy*r.end(pass), Whole) })
}

// Arrived returns the energies that arrive over a path.
func Arrived(a []Layer, p Path, energies []int) ([]api.Interval, api.Errno) {
	if e := check.First(CheckAir(a), CheckPath(p), checkEnergies(a, energies, api.MaxEnergy)); e != api.OK {
		return nil, e
	}
	pass := passed(a, directSteps(a, p))
	l := make([]api.Interval, bands(a))
	for band := range bands(a) {
		l[band] = arrived(energies[band], pass[band])
	}
	return l, api.OK
}

// checkHeard returns the first error of what is heard in each band, or OK.
func checkHeard(a []Layer, l []api.Interval) api.Errno {
	return check.First(
		checkShape(l, bands(a)),
		check.Each(l, func(x api.Interval) api.Errno { return check.Interval(x, sound.CheckEnergy) }),
	)
}

// emitted returns the energies that explain what is heard by a transmittance, and whether there are any.
func emitted(heard, pass api.Interval) (api.Interval, bool) {
	x := api.Interval{High: api.MaxEnergy}
	if heard.Low > 0 {
		if pass.High == 0 {
			return api.Interval{}, false
		}
		x.Low = number.Up(heard.Low*Whole, pass.High)
	}
	if pass.Low > 0 {
		x.High = min(x.High, number.Down(heard.High*Whole, pass.Low))
	}
	// Between the ends there may be no integer, also where the limit cuts none.
	return x, x.Low <= x.High
}

// Emitted returns the energies that can have been emitted.
func Emitted(a []Layer, p Path, heard []api.Interval) ([]api.Interval, api.Errno) {
	if e := check.First(CheckAir(a), CheckPath(p), checkHeard(a, heard)); e != api.OK {
		return nil, e
	}
	pass := passed(a, directSteps(a, p))
	l := make([]api.Interval, bands(a))
	for band := range bands(a) {
		x, ok := emitted(heard[band], pass[band])
		if !ok {
			return nil, api.ErrInfeasible
		}
		l[band] = x
	}
	return l, api.OK
}
