package air

import (
	"iter"
	"math"
	"slices"

	"flyover/api"
	"flyover/check"
	"flyover/list"
	"flyover/sound"
)

// noTop is the top of the last layer: above all heights.
const noTop = math.MaxInt

// placed is a layer with its index, its bottom and its top.
type placed struct {
	Layer
	index  int
	bottom int
	top    int
}

// upTo returns how much of the heights from 0 to a height lies in a layer.
func (x placed) upTo(height int) int {
	return max(min(height, x.top)-x.bottom, 0)
}

// layers visits the layers of an air, from the ground upwards.
func layers(a []Layer) iter.Seq[placed] {
	return func(yield func(placed) bool) {
		bottom := 0
		for i, x := range a {
			top := bottom + x.Thickness
			if i == len(a)-1 {
				top = noTop
			}
			if !yield(placed{x, i, bottom, top}) {
				return
			}
			bottom = top
		}
	}
}

// layerAt returns the layer at a height.
func layerAt(a []Layer, height int) placed {
	var at placed
search:
	for x := range layers(a) {
		switch {
		case x.bottom > height:
			break search
		default:
			at = x
		}
	}
	return at
}

// copied returns an air that shares no memory with another one.
func copied(a []Layer) []Layer {
	return list.Mapped(a, func(x Layer) Layer {
		x.Pass = slices.Clone(x.Pass)
		return x
	})
}

// bands returns how many bands an air has.
func bands(a []Layer) int {
	if len(a) == 0 {
		return 0
	}
	return len(a[0].Pass)
}

// checkShape returns ErrShape for a list that does not have n elements, or OK.
func checkShape[T any](l []T, n int) api.Errno {
	if len(l) != n {
		return api.ErrShape
	}
	return api.OK
}

func checkWind(n int) api.Errno {
	return check.Within(n, -MaxWind, MaxWind)
}

func checkTransmittance(n int) api.Errno {
	return check.Within(n, 0, Whole)
}

func checkPass(x api.Interval) api.Errno {
	return check.Interval(x, checkTransmittance)
}

// check returns the first error of a layer of an air with so many bands, or OK.
func (x Layer) check(bands int) api.Errno {
	return check.First(
		check.Within(x.Thickness, 1, MaxThickness),
		check.Within(x.Speed, 1, MaxSpeed),
		checkWind(x.Wind.X),
		checkWind(x.Wind.Y),
		check.Count(x.Pass, api.MaxBands),
		checkShape(x.Pass, bands),
		check.Each(x.Pass, checkPass),
	)
}

// CheckAir returns the first error of an air, or OK.
func CheckAir(a []Layer) api.Errno {
	if e := check.Count(a, MaxLayers); e != api.OK {
		return e
	}
	return check.Each(a, func(x Layer) api.Errno { return x.check(bands(a)) })
}

// LayerAt returns the index of the layer at a height.
func LayerAt(a []Layer, height int) (int, api.Errno) {
	if e := check.First(CheckAir(a), checkHeight(height)); e != api.OK {
		return 0, e
	}
	return layerAt(a, height).index, api.OK
}

// checkSplit returns the error of an air whose layer x is split at a height, or OK.
func checkSplit(a []Layer, x placed, height int) api.Errno {
	if height == x.bottom {
		return api.ErrTwice
	}
	if len(a) == MaxLayers {
		return api.ErrMany
	}
	if height-x.bottom > MaxThickness {
		return api.ErrLarge
	}
	return api.OK
}

// Split returns an air with a layer that is split at a height.
func Split(a []Layer, height int) ([]Layer, api.Errno) {
	if e := check.First(CheckAir(a), check.Within(height, 1, MaxHeight)); e != api.OK {
		return nil, e
	}
	x := layerAt(a, height)
	if e := checkSplit(a, x, height); e != api.OK {
		return nil, e
	}
	// The layer itself is in both parts, each with a copy of its own.
	split := slices.Concat(copied(a[:x.index+1]), copied(a[x.index:]))
	split[x.index].Thickness = height - x.bottom
	split[x.index+1].Thickness = 1
	if x.top != noTop {
		split[x.index+1].Thickness = x.top - height
	}
	return split, api.OK
}

// Reversed returns an air with the opposite winds.
func Reversed(a []Layer) ([]Layer, api.Errno) {
	if e := CheckAir(a); e != api.OK {
		return nil, e
	}
	back := copied(a)
	for i, x := range a {
		back[i].Wind = api.Point{X: -x.Wind.X, Y: -x.Wind.Y}
	}
	return back, api.OK
}

func checkSlowness(x api.Ratio) api.Errno {
	return check.First(check.Within(x.Num, 1, MaxSlowness), check.Within(x.Den, 1, MaxSlowness), sound.CheckRatio(x))
}

// Turned returns the layer at which a ray turns.
func Turned(a []Layer, from int, slowness api.Ratio) (int, api.Errno) {
	if e := check.First(CheckAir(a), check.Index(a, from), checkSlowness(slowness)); e != api.OK {
		return 0, e
	}
	turns := func(x Layer) bool { return x.Speed*slowness.Num >= slowness.Den }
	n := slices.IndexFunc(a[from:], turns)
	if n < 0 {
		return 0, api.ErrNone
	}
	return from + n, api.OK
}
