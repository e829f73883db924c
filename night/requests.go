package night

import (
	"cmp"
	"slices"

	"flyover/api"
	"flyover/check"
	"flyover/number"
)

// perHour is how many minutes an hour has.
const perHour = 60

// set is requests that are granted: their indices, the sums of their values and of the counts of their types, and how many have each hour.
type set struct {
	granted []int
	value   int
	count   int
	used    [Day / perHour]int
}

// compare says which of two sets is better: that one is before the other one.
func (x set) compare(y set) int {
	return cmp.Or(cmp.Compare(y.value, x.value), cmp.Compare(x.count, y.count), slices.Compare(x.granted, y.granted))
}

// with returns a set with one more request: that with an index.
func (r Rules) with(x set, l []Request, i int) set {
	// Another set may begin with the same indices: they are not shared.
	x.granted = append(slices.Clone(x.granted), i)
	x.value += l[i].Value
	x.count += r.named(l[i].Type).Count
	x.used[l[i].Hour]++
	return x
}

// sets returns all those of requests.
func (r Rules) sets(l []Request) []set {
	all := []set{{}}
	for i := range l {
		for _, x := range all {
			all = append(all, r.with(x, l, i))
		}
	}
	return all
}

// hours returns how many the night has.
func (r Rules) hours() int {
	return number.Up(length(r.Night), perHour)
}

// crowded reports whether more requests of a set than the rate have one hour.
func (r Rules) crowded(x set) bool {
	for hour := range r.hours() {
		if x.used[hour] > r.Rate {
			return true
		}
	}
	return false
}

// excesses returns the faults of sets.
func (r Rules) excesses() []check.Fault[set, string] {
	return []check.Fault[set, string]{
		{Tell: "quota", Holds: func(x set) bool { return x.count > r.Quota }},
		{Tell: "rate", Holds: r.crowded},
	}
}

// checkRequests returns the first error of rules and requests, or OK.
func checkRequests(r Rules, l []Request) api.Errno {
	if e := check.First(CheckRules(r), check.AtMost(l, MaxRequests)); e != api.OK {
		return e
	}
	return check.Each(l, func(x Request) api.Errno {
		return check.First(
			r.checkType(x.Type),
			check.Within(x.Hour, 0, r.hours()-1),
			check.Within(x.Value, 0, MaxValue),
		)
	})
}

// checkGranted returns the first error of the indices of requests that are granted, or OK.
func checkGranted(l []Request, granted []int) api.Errno {
	return check.Ascending(granted, func(i int) api.Errno { return check.Index(l, i) })
}

// Fits returns what is wrong with granted requests, or the empty string if they fit.
func Fits(r Rules, l []Request, granted []int) (string, api.Errno) {
	if e := check.First(checkRequests(r, l), checkGranted(l, granted)); e != api.OK {
		return "", e
	}
	var x set
	for _, i := range granted {
		x = r.with(x, l, i)
	}
	return check.Wrong(x, r.excesses()), api.OK
}

// Plan returns the best set of requests, and its value.
func Plan(r Rules, l []Request) ([]int, int, api.Errno) {
	if e := checkRequests(r, l); e != api.OK {
		return nil, 0, e
	}
	// The set without requests always fits, so that there is a best one.
	fitting := slices.DeleteFunc(r.sets(l), func(x set) bool { return check.Wrong(x, r.excesses()) != "" })
	best := slices.MinFunc(fitting, set.compare)
	return best.granted, best.value, api.OK
}

func checkPrice(n int) api.Errno {
	return check.Within(n, 0, MaxPrice)
}

// Bound returns the bound that prices of a count and of a movement prove.
func Bound(r Rules, l []Request, prices [2]int) (int, api.Errno) {
	if e := check.First(checkRequests(r, l), check.Each(prices[:], checkPrice)); e != api.OK {
		return 0, e
	}
	bound := prices[0]*r.Quota + prices[1]*r.Rate*r.hours()
	for _, x := range l {
		bound += max(0, x.Value-prices[0]*r.named(x.Type).Count-prices[1])
	}
	return bound, api.OK
}
