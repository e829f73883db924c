package contour

import (
	"flyover/api"
	"flyover/check"
)

func checkCount(n int) api.Errno {
	return check.Within(n, 0, MaxPeople)
}

// checkPeople returns the first error of the people of a grid's cells, or OK.
func checkPeople(g Grid, people []api.Interval) api.Errno {
	return check.First(
		check.That(len(people) == g.cells(), api.ErrShape),
		check.Each(people, func(x api.Interval) api.Errno { return check.Interval(x, checkCount) }),
	)
}

// checkLevels returns the first error of the levels of classes, or OK.
func checkLevels(l []int) api.Errno {
	return check.First(check.Count(l, MaxClasses), check.Ascending(l, checkLevel))
}

// exposed returns the sum of the people of all cells whose level is one of a span.
func exposed(g Grid, people []api.Interval, levels api.Span) api.Interval {
	var sum api.Interval
	for i, level := range g.levels() {
		if level >= levels.From && level < levels.To {
			sum.Low += people[i].Low
			sum.High += people[i].High
		}
	}
	return sum
}

// Exposed returns the people within a level.
func Exposed(g Grid, people []api.Interval, level int) (api.Interval, api.Errno) {
	if e := check.First(CheckGrid(g), checkPeople(g, people), checkLevel(level)); e != api.OK {
		return api.Interval{}, e
	}
	return exposed(g, people, api.Span{From: level, To: api.MaxLevel + 1}), api.OK
}

// Classes returns the people of each class of levels.
func Classes(g Grid, people []api.Interval, levels []int) ([]api.Interval, api.Errno) {
	if e := check.First(CheckGrid(g), checkPeople(g, people), checkLevels(levels)); e != api.OK {
		return nil, e
	}
	l := make([]api.Interval, len(levels))
	to := api.MaxLevel + 1
	for i := len(levels) - 1; i >= 0; i-- {
		l[i] = exposed(g, people, api.Span{From: levels[i], To: to})
		to = levels[i]
	}
	return l, api.OK
}
