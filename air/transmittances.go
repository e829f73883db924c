package air

import (
	"flyover/api"
	"flyover/number"
)

// rounding finds one end of intervals: which end it is, with how many steps it is reached, and how its quotients are rounded.
type rounding struct {
	end     func(api.Interval) int
	steps   func(api.Interval) int
	divided func(n, d int) int
}

func lowOf(x api.Interval) int  { return x.Low }
func highOf(x api.Interval) int { return x.High }

// lower finds the Low: the more steps, the less is left.
func lower() rounding { return rounding{end: lowOf, steps: highOf, divided: number.Down} }

// upper finds the High.
func upper() rounding { return rounding{end: highOf, steps: lowOf, divided: number.Up} }

// both returns the interval whose ends f finds.
func both(f func(rounding) int) api.Interval {
	return api.Interval{Low: f(lower()), High: f(upper())}
}

// run is a number of steps with one transmittance, from what is left before it on.
type run struct {
	from  int
	pass  int
	steps int
}

// fading finds one end of transmittances, and keeps what is left after each run: bands are often alike.
type fading struct {
	rounding
	kept map[run]int
}

// after returns what is left after a run.
func (f fading) after(r run) int {
	if left, ok := f.kept[r]; ok {
		return left
	}
	left := r.from
	for range r.steps {
		left = f.divided(left*r.pass, Whole)
	}
	f.kept[r] = left
	return left
}

// through returns what is left in a band after the steps in all layers.
func (f fading) through(a []Layer, steps []api.Interval, band int) int {
	left := Whole
	for i, x := range a {
		left = f.after(run{left, f.end(x.Pass[band]), f.steps(steps[i])})
	}
	return left
}

// passed returns the transmittance of each band after the steps in all layers.
func passed(a []Layer, steps []api.Interval) []api.Interval {
	least, most := fading{lower(), map[run]int{}}, fading{upper(), map[run]int{}}
	l := make([]api.Interval, bands(a))
	for band := range bands(a) {
		l[band] = api.Interval{Low: least.through(a, steps, band), High: most.through(a, steps, band)}
	}
	return l
}
