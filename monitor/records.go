package monitor

import (
	"slices"

	"flyover/api"
	"flyover/check"
	"flyover/list"
	"flyover/number"
)

// CheckRecord returns the first error of a record, or OK.
func CheckRecord(r []int) api.Errno {
	return check.First(
		check.Count(r, MaxSeconds),
		check.Each(r, func(n int) api.Errno { return check.Within(n, Missing, api.MaxEnergy) }),
	)
}

func checkSource(n int) api.Errno {
	return check.Within(n, 1, MaxSource)
}

func checkFactors(x api.Interval) api.Errno {
	return check.Interval(x, func(n int) api.Errno { return check.Within(n, 0, MaxFactor) })
}

// Calibrated returns the factors by which a measured reference is right.
func Calibrated(reference int, measured api.Interval) (api.Interval, api.Errno) {
	if e := check.First(checkSource(reference), check.Interval(measured, checkSource)); e != api.OK {
		return api.Interval{}, e
	}
	factors := api.Interval{
		Low:  number.Down(Whole*reference, measured.High),
		High: number.Up(Whole*reference, measured.Low),
	}
	if factors.High > MaxFactor {
		return api.Interval{}, api.ErrLarge
	}
	return factors, api.OK
}

// Agreed returns the factors of two checks together.
func Agreed(a, b api.Interval) (api.Interval, api.Errno) {
	if e := check.First(checkFactors(a), checkFactors(b)); e != api.OK {
		return api.Interval{}, e
	}
	both := api.Interval{Low: max(a.Low, b.Low), High: min(a.High, b.High)}
	if both.Low > both.High {
		return api.Interval{}, api.ErrConflict
	}
	return both, api.OK
}

// corrected returns the interval of a second by factors.
func corrected(n int, factors api.Interval) api.Interval {
	if n == Missing {
		return api.Interval{Low: Missing, High: Missing}
	}
	return api.Interval{Low: number.Down(n*factors.Low, Whole), High: number.Up(n*factors.High, Whole)}
}

// checkEnds returns ErrLarge for an interval with an end that no energy has, or OK.
func checkEnds(x api.Interval) api.Errno {
	// Low is never above High.
	return check.That(x.High <= api.MaxEnergy, api.ErrLarge)
}

// Corrected returns a record times factors.
func Corrected(r []int, factors api.Interval) ([]api.Interval, api.Errno) {
	if e := check.First(CheckRecord(r), checkFactors(factors)); e != api.OK {
		return nil, e
	}
	l := list.Mapped(r, func(n int) api.Interval { return corrected(n, factors) })
	if e := check.Each(l, checkEnds); e != api.OK {
		return nil, e
	}
	return l, api.OK
}

// heard returns the energies of a record, without the seconds that are missing.
func heard(r []int) []int {
	l := make([]int, len(r))
	copy(l, r)
	return slices.DeleteFunc(l, func(n int) bool { return n == Missing })
}

// Background returns the energy that is reached in some percent of the seconds.
func Background(r []int, percent int) (int, api.Errno) {
	if e := check.First(CheckRecord(r), check.Within(percent, 1, 100)); e != api.OK {
		return 0, e
	}
	l := heard(r)
	if len(l) == 0 {
		return 0, api.ErrNone
	}
	slices.Sort(l)
	slices.Reverse(l)
	return l[number.Up(len(l)*percent, 100)-1], api.OK
}

// totals is the sum of the energies of seconds, the greatest one, and how many seconds are missing.
type totals struct {
	sum     int
	most    int
	missing int
}

// totalsOf returns those of seconds.
func totalsOf(r []int) totals {
	l := heard(r)
	x := totals{missing: len(r) - len(l)}
	for _, n := range l {
		x.sum += n
		x.most = max(x.most, n)
	}
	return x
}

// checkSum returns ErrLarge for a sum that is above all energies, or OK.
func checkSum(n int) api.Errno {
	return check.That(n <= api.MaxEnergy, api.ErrLarge)
}

// Totals returns the sum of a record, its greatest energy, and how many seconds are missing.
func Totals(r []int) (int, int, int, api.Errno) {
	if e := CheckRecord(r); e != api.OK {
		return 0, 0, 0, e
	}
	x := totalsOf(r)
	if e := checkSum(x.sum); e != api.OK {
		return 0, 0, 0, e
	}
	return x.sum, x.most, x.missing, api.OK
}
