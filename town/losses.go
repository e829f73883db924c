package town

import (
	"flyover/api"
	"flyover/check"
	"flyover/list"
	"flyover/number"
	"flyover/sound"
)

// CheckTable returns the first error of a table, or OK.
func CheckTable(table []Step) api.Errno {
	if e := check.Count(table, MaxSteps); e != api.OK {
		return e
	}
	// No step without an error is out of order after this one, so that the first step needs no rules of its own.
	before := Step{Factor: Whole}
	return check.Each(table, func(x Step) api.Errno {
		ordered := x.From > before.From && x.Factor <= before.Factor
		before = x
		return check.First(check.Within(x.From, 1, MaxDepth), check.Within(x.Factor, 0, Whole), check.That(ordered, api.ErrOrder))
	})
}

// completed returns a table that has a step for each depth.
func completed(table []Step) []Step {
	steps := make([]Step, 1+len(table))
	steps[0] = Step{Factor: Whole}
	copy(steps[1:], table)
	return steps
}

// factor returns that of a depth.
func factor(table []Step, depth int) int {
	found := 0
search:
	for _, x := range completed(table) {
		switch {
		case x.From > depth:
			break search
		default:
			found = x.Factor
		}
	}
	return found
}

// Factor returns the factor of a depth.
func Factor(table []Step, depth int) (int, api.Errno) {
	if e := check.First(CheckTable(table), check.Within(depth, 0, MaxDepth)); e != api.OK {
		return 0, e
	}
	return factor(table, depth), api.OK
}

// times returns an energy times a factor.
func times(energy, factor int) api.Interval {
	return api.Interval{Low: number.Down(energy*factor, Whole), High: number.Up(energy*factor, Whole)}
}

// checkSource returns the first error of what is between an energy and those who hear it, and of the energy, or OK.
func checkSource(l []Wall, table []Step, ends [2]api.Vector, energy int) api.Errno {
	return check.First(CheckWalls(l), CheckTable(table), checkSpots(ends[0], ends[1]), sound.CheckEnergy(energy))
}

// screened returns the energy times the factor of the path's depth.
func screened(l []Wall, table []Step, ends [2]api.Vector, energy int) api.Interval {
	_, depth := depths(l, ends[0], ends[1])
	return times(energy, factor(table, depth))
}

// Screened returns an energy after a path between walls.
func Screened(l []Wall, table []Step, path [2]api.Vector, energy int) (api.Interval, api.Errno) {
	if e := checkSource(l, table, path, energy); e != api.OK {
		return api.Interval{}, e
	}
	return screened(l, table, path, energy), api.OK
}

// echo is a mirror with the energy that reaches it.
type echo struct {
	Mirror
	energy int
}

// left returns what the mirror's wall leaves of the energy.
func (x echo) left(l []Wall) api.Interval {
	return times(x.energy, l[x.Wall].Echo)
}

// Heard returns what is heard of an energy after a path, and its reflections.
func Heard(l []Wall, table []Step, path [2]api.Vector, energy int) (api.Interval, api.Errno) {
	if e := checkSource(l, table, path, energy); e != api.OK {
		return api.Interval{}, e
	}
	echoes := list.Mapped(mirrors(l, path[0], path[1]), func(x Mirror) echo { return echo{x, energy} })
	sum := screened(l, table, path, energy)
	for _, x := range echoes {
		more := x.left(l)
		sum.Low += more.Low
		sum.High += more.High
	}
	if sum.High > api.MaxEnergy {
		return api.Interval{}, api.ErrLarge
	}
	return sum, api.OK
}
