package source

import (
	"slices"

	"flyover/api"
	"flyover/check"
)

func checkAlong(n int) api.Errno {
	return check.Within(n, 0, MaxAlong)
}

func (s Step) check() api.Errno {
	return check.First(checkAlong(s.Along), checkHeight(s.Height), checkPower(s.Power))
}

// CheckProcedure returns the first error of a procedure, or OK.
func CheckProcedure(p []Step) api.Errno {
	if e := checkLength(p, MaxSteps); e != api.OK {
		return e
	}
	for i, s := range p {
		if e := s.check(); e != api.OK {
			return e
		}
		if i == 0 && s.Along != 0 || i > 0 && s.Along <= p[i-1].Along {
			return api.ErrOrder
		}
	}
	return api.OK
}

// checkPath returns the first error of a path, or OK.
func checkPath(path []api.Point) api.Errno {
	if e := checkLength(path, MaxPoints); e != api.OK {
		return e
	}
	for i, x := range path {
		if e := check.First(checkFar(x.X), checkFar(x.Y)); e != api.OK {
			return e
		}
		if i > 0 && x == path[i-1] {
			return api.ErrTwice
		}
	}
	return api.OK
}

// lengths returns the length of a path up to each of its points.
func lengths(path []api.Point) []int {
	l := make([]int, len(path))
	for i, x := range path[1:] {
		before := path[i]
		l[i+1] = l[i] + max(x.X-before.X, before.X-x.X) + max(x.Y-before.Y, before.Y-x.Y)
	}
	return l
}

// stepAt returns the height and the power of a procedure at a length, as a step.
func stepAt(p []Step, along int) Step {
	next := slices.IndexFunc(p, func(s Step) bool { return s.Along > along })
	if next < 0 {
		end := p[len(p)-1]
		return Step{Along: along, Height: end.Height, Power: end.Power}
	}
	// The first step has the length 0, so that it is never the next one.
	a, b := p[next-1], p[next]
	at := func(from, to int) int { return between(from, to, along-a.Along, b.Along-a.Along) }
	return Step{Along: along, Height: at(a.Height, b.Height), Power: at(a.Power, b.Power)}
}

// Flown returns the track of a path by a procedure.
func Flown(path []api.Point, p []Step, speed, tick int) ([]Fix, api.Errno) {
	if e := check.First(checkPath(path), CheckProcedure(p), checkSpeed(speed), checkTick(tick)); e != api.OK {
		return nil, e
	}
	alongs := lengths(path)
	if alongs[len(path)-1] > MaxAlong {
		return nil, api.ErrLarge
	}
	track := make([]Fix, len(path))
	for i, along := range alongs {
		s := stepAt(p, along)
		track[i] = Fix{
			Tick:  tick + (along+speed-1)/speed,
			At:    api.Vector{X: path[i].X, Y: path[i].Y, Z: s.Height},
			Power: s.Power,
		}
	}
	if e := CheckTrack(track); e != api.OK {
		return nil, e
	}
	return track, api.OK
}
