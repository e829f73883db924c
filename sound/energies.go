package sound

import (
	"slices"
	"sort"

	"flyover/api"
	"flyover/check"
	"flyover/list"
	"flyover/number"
)

// steps has the thresholds of the first ten levels; those of each further ten are ten times as high.
var steps = [10]int{10, 13, 16, 20, 25, 32, 40, 50, 63, 79}

// penalty is the factor of the ticks of a day from one on, up to the next penalty.
type penalty struct {
	from  int
	times func(energy int) int
}

// penalties returns those of a day, the last one first.
func penalties() []penalty {
	once := func(energy int) int { return energy }
	thrice := func(energy int) int { return 3 * energy }
	tenfold := func(energy int) int { return 10 * energy }
	return []penalty{{82800, tenfold}, {68400, thrice}, {25200, once}, {0, tenfold}}
}

// CheckEnergy returns the first error of an energy, or OK.
func CheckEnergy(e int) api.Errno {
	return check.Within(e, 0, api.MaxEnergy)
}

func checkEnergies(l []int) api.Errno {
	return check.First(check.AtMost(l, MaxCells), check.Each(l, CheckEnergy))
}

// threshold returns that of a level from 0 to MaxLevel.
func threshold(level int) int {
	n := steps[level%10]
	for range level / 10 {
		n *= 10
	}
	return n
}

// Threshold returns the threshold of a level.
func Threshold(level int) (int, api.Errno) {
	if e := check.Within(level, 0, api.MaxLevel); e != api.OK {
		return 0, e
	}
	return threshold(level), api.OK
}

// Level returns the level of an energy.
func Level(e int) (int, api.Errno) {
	if no := CheckEnergy(e); no != api.OK {
		return 0, no
	}
	above := sort.Search(api.MaxLevel+1, func(k int) bool { return threshold(k) > e })
	// Where the first threshold is above the energy already, this is None.
	return above - 1, api.OK
}

// Range returns the energies that have a level.
func Range(level int) (api.Interval, api.Errno) {
	if e := check.Within(level, None, api.MaxLevel); e != api.OK {
		return api.Interval{}, e
	}
	x := api.Interval{High: api.MaxEnergy}
	if level > None {
		x.Low = threshold(level)
	}
	if level < api.MaxLevel {
		x.High = threshold(level+1) - 1
	}
	return x, api.OK
}

// total returns the sum of a list.
func total(l []int) int {
	sum := 0
	for _, n := range l {
		sum += n
	}
	return sum
}

// asEnergy returns a sum of energies, or ErrLarge.
func asEnergy(sum int) (int, api.Errno) {
	if sum > api.MaxEnergy {
		return 0, api.ErrLarge
	}
	return sum, api.OK
}

// Sum returns the sum of energies.
func Sum(l []int) (int, api.Errno) {
	if e := checkEnergies(l); e != api.OK {
		return 0, e
	}
	return asEnergy(total(l))
}

// checkTicks returns the first error of the ticks of n energies, or OK.
func checkTicks(ticks []int, n int) api.Errno {
	if len(ticks) != n {
		return api.ErrShape
	}
	return check.Each(ticks, func(t int) api.Errno { return check.Within(t, 0, Day) })
}

// Average returns the mean of energies, each over as many ticks as it lasts.
func Average(l, ticks []int) (int, api.Errno) {
	if e := check.First(checkEnergies(l), checkTicks(ticks, len(l))); e != api.OK {
		return 0, e
	}
	all := total(ticks)
	if all > Day {
		return 0, api.ErrLarge
	}
	if all == 0 {
		return 0, api.ErrZero
	}
	sum := 0
	for i, e := range l {
		sum += e * ticks[i]
	}
	return number.Nearest(sum, all), api.OK
}

func (h Heard) check() api.Errno {
	return check.First(check.Within(h.Tick, 0, Day-1), CheckEnergy(h.Energy))
}

// Penalized returns the sum of what was heard on a day, each energy times the factor of its hour.
func Penalized(l []Heard) (int, api.Errno) {
	if e := check.First(check.AtMost(l, MaxCells), check.Each(l, Heard.check)); e != api.OK {
		return 0, e
	}
	hours := penalties()
	energies := list.Mapped(l, func(h Heard) int {
		at := slices.IndexFunc(hours, func(p penalty) bool { return p.from <= h.Tick })
		return hours[at].times(h.Energy)
	})
	return asEnergy(total(energies))
}

// Maximum returns the greatest energy, and its index.
func Maximum(l []int) (int, int, api.Errno) {
	if e := checkEnergies(l); e != api.OK {
		return 0, 0, e
	}
	if len(l) == 0 {
		return 0, 0, api.ErrEmpty
	}
	at := 0
	for i, e := range l {
		if e > l[at] {
			at = i
		}
	}
	return l[at], at, api.OK
}

// Above returns how many energies have at least a level.
func Above(l []int, level int) (int, api.Errno) {
	if e := check.First(checkEnergies(l), check.Within(level, 0, api.MaxLevel)); e != api.OK {
		return 0, e
	}
	least := threshold(level)
	n := 0
	for _, e := range l {
		if e >= least {
			n++
		}
	}
	return n, api.OK
}
