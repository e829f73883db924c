package monitor

import (
	"cmp"
	"slices"

	"flyover/api"
	"flyover/check"
)

// given has the index of a pass, or None, for each event from one on.
type given struct {
	passes []int
}

// valued is a match of these events, with its value.
type valued struct {
	given
	value int
}

// compare says which of two matches has the greater value.
func (x valued) compare(y valued) int {
	return cmp.Compare(x.value, y.value)
}

// state is how far a search for matches has come: at which event, and with which passes taken.
type state struct {
	event int
	taken [api.MaxExact]bool
}

// with returns the state after an event that has a pass, or None.
func (at state) with(pass int) state {
	at.event++
	if pass != None {
		at.taken[pass] = true
	}
	return at
}

// matching finds matches by the values of events and passes, and keeps the best one from each state on: many ways lead to it.
type matching struct {
	values [][]int
	best   map[state]valued
}

// matchingOf returns that of values.
func matchingOf(values [][]int) matching {
	return matching{values, map[state]valued{}}
}

// choices returns the best match from a state on with each pass that the next event can have, and the last one with None.
func (m matching) choices(at state) []valued {
	var l []valued
	add := func(pass, value int) {
		rest := m.bestFrom(at.with(pass))
		l = append(l, valued{given{slices.Concat([]int{pass}, rest.passes)}, value + rest.value})
	}
	for pass, n := range m.values[at.event] {
		if n > 0 && !at.taken[pass] {
			add(pass, n)
		}
	}
	add(None, 0)
	return l
}

// bestFrom returns the best match from a state on.
func (m matching) bestFrom(at state) valued {
	if at.event == len(m.values) {
		return valued{}
	}
	if x, ok := m.best[at]; ok {
		return x
	}
	// Of several greatest elements MaxFunc returns the first one: that with the least index, or with None.
	x := slices.MaxFunc(m.choices(at), valued.compare)
	m.best[at] = x
	return x
}

// second returns the greatest value of all matches but the best one, and None if there is none.
func (m matching) second() int {
	best, second := m.bestFrom(state{}), None
	at := state{}
search:
	for _, pass := range best.passes {
		// Another match is the best one before an event, and then has another pass.
		before := best.value - m.bestFrom(at).value
		for _, x := range m.choices(at) {
			if x.passes[0] == pass {
				continue
			}
			second = max(second, before+x.value)
			if second == best.value {
				break search
			}
		}
		at = at.with(pass)
	}
	return second
}

// checkMatch returns the first error of a match by values, with so many passes, or OK.
func checkMatch(values [][]int, passes int, l []int) api.Errno {
	if len(l) != len(values) {
		return api.ErrShape
	}
	for i, pass := range l {
		if pass == None {
			continue
		}
		if pass < 0 || pass >= passes {
			return api.ErrUnknown
		}
		if slices.Contains(l[:i], pass) {
			return api.ErrTwice
		}
		if values[i][pass] == 0 {
			return api.ErrRule
		}
	}
	return api.OK
}

// CheckMatch returns the value of a match.
func CheckMatch(l []Event, p []Pass, slack int, match []int) (int, api.Errno) {
	if e := checkAll(l, p, slack); e != api.OK {
		return 0, e
	}
	of := values(l, p, slack)
	if e := checkMatch(of, len(p), match); e != api.OK {
		return 0, e
	}
	sum := 0
	for i, pass := range match {
		if pass != None {
			sum += of[i][pass]
		}
	}
	return sum, api.OK
}

// Match returns the best match, and its value.
func Match(l []Event, p []Pass, slack int) ([]int, int, api.Errno) {
	if e := checkAll(l, p, slack); e != api.OK {
		return nil, 0, e
	}
	best := matchingOf(values(l, p, slack)).bestFrom(state{})
	return best.passes, best.value, api.OK
}

// Second returns the greatest value of another match.
func Second(l []Event, p []Pass, slack int) (int, api.Errno) {
	if e := checkAll(l, p, slack); e != api.OK {
		return 0, e
	}
	second := matchingOf(values(l, p, slack)).second()
	if second == None {
		return 0, api.ErrNone
	}
	return second, api.OK
}

func checkPrice(n int) api.Errno {
	return check.Within(n, 0, MaxPrice)
}

// checkPrices returns the first error of the prices of so many events and passes, or OK.
func checkPrices(prices [2][]int, events, passes int) api.Errno {
	return check.First(
		check.That(len(prices[0]) == events, api.ErrShape),
		check.That(len(prices[1]) == passes, api.ErrShape),
		check.Each(prices[0], checkPrice),
		check.Each(prices[1], checkPrice),
	)
}

// prove reports whether prices are at least the values, each those of its event and its pass together.
func prove(prices [2][]int, values [][]int) bool {
	for i, row := range values {
		for j, n := range row {
			if prices[0][i]+prices[1][j] < n {
				return false
			}
		}
	}
	return true
}

// Bound returns the value that no match exceeds, by prices of events and of passes.
func Bound(l []Event, p []Pass, slack int, prices [2][]int) (int, api.Errno) {
	if e := check.First(checkAll(l, p, slack), checkPrices(prices, len(l), len(p))); e != api.OK {
		return 0, e
	}
	if !prove(prices, values(l, p, slack)) {
		return 0, api.ErrProof
	}
	sum := 0
	for _, n := range slices.Concat(prices[0], prices[1]) {
		sum += n
	}
	return sum, api.OK
}
