package night_test

import (
	"fmt"
	"math"
	"slices"
	"strconv"
	"strings"
	"testing"

	"flyover/api"
	"flyover/night"
)

// many returns n movements of different flights.
func many(n int) []night.Move {
	var l []night.Move
	for i := range n {
		l = append(l, move("f"+strconv.Itoa(i), "air", "jet", 4, 20))
	}
	return l
}

// P7.1: movements with each limit, and beyond it.
func TestCheckMoves(t *testing.T) {
	long := strings.Repeat("a", api.MaxName)
	for i, x := range []struct {
		l []night.Move
		e api.Errno
	}{
		{moves(), api.OK}, {nil, api.OK}, {[]night.Move{}, api.OK}, {many(256), api.OK}, {many(257), api.ErrMany}, {make([]night.Move, 256), api.ErrName},
		{[]night.Move{move(long, long, "prop", 1, 0), move(long[1:], "a", "jet", api.MaxDay, 1439)}, api.OK}, {[]night.Move{move(long+"a", "a", "jet", 1, 0)}, api.ErrName}, {[]night.Move{move("a", long+"a", "jet", 1, 0)}, api.ErrName},
		{[]night.Move{move("", "a", "jet", 1, 0)}, api.ErrName}, {[]night.Move{move("7f", "a", "jet", 1, 0)}, api.ErrName}, {[]night.Move{move("f", "", "jet", 1, 0)}, api.ErrName}, {[]night.Move{move("f", "a\n", "jet", 1, 0)}, api.ErrName},
		{[]night.Move{move("f", "a", "", 1, 0)}, api.ErrUnknown}, {[]night.Move{move("f", "a", "Jet", 1, 0)}, api.ErrUnknown}, {[]night.Move{move("f", "a", "jet ", 1, 0)}, api.ErrUnknown},
		{[]night.Move{move("f", "a", "jet", 0, 0)}, api.ErrRange}, {[]night.Move{move("f", "a", "jet", api.MaxDay+1, 0)}, api.ErrRange}, {[]night.Move{move("f", "a", "jet", 1, -1)}, api.ErrRange}, {[]night.Move{move("f", "a", "jet", 1, 1440)}, api.ErrRange}, {[]night.Move{move("f", "a", "jet", math.MinInt, math.MaxInt)}, api.ErrRange},
		// The first movement with an error decides; one before it may be any other one.
		{append(moves(), move("f1", "a", "jet", 1, 0)), api.ErrTwice}, {append(moves(), move("g", "a", "jet", 0, 0), move("f1", "a", "jet", 1, 0)), api.ErrRange}, {append(moves(), move("F1", "sky", "jet", 4, 100)), api.OK},
	} {
		is(t, fmt.Sprint("CheckMoves ", i), night.CheckMoves(rules(), x.l), x.e)
	}
	is(t, "CheckMoves without types", night.CheckMoves(changedRules(func(r *night.Rules) { r.Types = nil }), moves()), api.ErrUnknown)
	inOrder(t, "CheckMoves", func(a arguments) (api.Errno, bool) { return night.CheckMoves(a.rules, a.moves), true }, ruleFaults(), moveFaults())
}

// P7.1: the nights of minutes.
func TestNight(t *testing.T) {
	early := changedRules(func(r *night.Rules) { r.Night = span(0, 360) })
	last := changedRules(func(r *night.Rules) { r.Night, r.Curfew = span(1380, 0), span(1400, 1410) })
	for _, x := range []struct {
		r           night.Rules
		day, minute int
		n           int
		e           api.Errno
	}{
		{rules(), 4, 20, 3, api.OK}, {rules(), 4, 0, 3, api.OK}, {rules(), 4, 359, 3, api.OK}, {rules(), 4, 1380, 4, api.OK}, {rules(), 4, 1439, 4, api.OK}, {rules(), 1, 359, 0, api.OK}, {rules(), 1, 1400, 1, api.OK}, {rules(), api.MaxDay, 1380, api.MaxDay, api.OK}, {rules(), api.MaxDay, 0, api.MaxDay - 1, api.OK},
		{rules(), 4, 360, 0, api.ErrNone}, {rules(), 4, 1379, 0, api.ErrNone}, {early, 4, 20, 4, api.OK}, {early, 4, 0, 4, api.OK}, {early, 1, 359, 1, api.OK}, {early, 4, 360, 0, api.ErrNone}, {early, 4, 1439, 0, api.ErrNone}, {last, 4, 1439, 4, api.OK}, {last, 4, 0, 0, api.ErrNone},
		{rules(), 0, 20, 0, api.ErrRange}, {rules(), -1, 20, 0, api.ErrRange}, {rules(), api.MaxDay + 1, 20, 0, api.ErrRange}, {rules(), 4, -1, 0, api.ErrRange}, {rules(), 4, 1440, 0, api.ErrRange}, {rules(), math.MaxInt, math.MinInt, 0, api.ErrRange}, {rules(), 0, 360, 0, api.ErrRange},
	} {
		n, e := night.Night(x.r, x.day, x.minute)
		is(t, fmt.Sprint("Night of ", x.r.Night, x.day, x.minute), n, x.n)
		is(t, fmt.Sprint("error of Night of ", x.r.Night, x.day, x.minute), e, x.e)
	}
	inOrder(t, "Night", func(a arguments) (api.Errno, bool) {
		n, e := night.Night(a.rules, a.day, a.minute)
		return e, n == 0
	}, ruleFaults(), []fault{
		{func(a *arguments) { a.day = 0 }, api.ErrRange},
		{func(a *arguments) { a.minute = 1440 }, api.ErrRange},
		{func(a *arguments) { a.minute = 360 }, api.ErrNone},
	})
}

// P7.1: counts, what is spent, and what is left.
func TestCountsSpentLeft(t *testing.T) {
	full := changedRules(func(r *night.Rules) { r.Types[0].Count = 64 })
	for i, x := range []struct {
		r    night.Rules
		l    []night.Move
		c    []int
		left int
	}{
		{rules(), moves(), []int{4, 4, 1, 0}, 1}, {rules(), nil, nil, 10}, {rules(), moves()[3:], []int{0}, 10}, {rules(), append(moves(), move("f5", "air", "prop", 9, 359), move("f6", "air", "jet", 9, 360)), []int{4, 4, 1, 0, 1, 0}, 0},
		{rules(), append(moves(), move("f5", "air", "jet", 9, 0)), []int{4, 4, 1, 0, 4}, -3}, {full, many(256), slices.Repeat([]int{64}, 256), 10 - 64*256},
	} {
		c, e := night.Counts(x.r, x.l)
		are(t, fmt.Sprint("Counts ", i), c, x.c)
		is(t, "error of Counts", e, api.OK)
		left, e := night.Left(x.r, x.l)
		is(t, fmt.Sprint("Left ", i), left, x.left)
		is(t, "error of Left", e, api.OK)
	}
	l := append(moves(), move("f5", "air", "prop", 4, 1380), move("f6", "air", "jet", 1, 0), move("f7", "air", "jet", api.MaxDay, 1439))
	for i, x := range []struct {
		s api.Span
		n int
		e api.Errno
	}{
		{span(3, 4), 9, api.OK}, {span(4, 5), 1, api.OK}, {span(3, 5), 10, api.OK}, {span(0, 1), 4, api.OK}, {span(0, 3), 4, api.OK}, {span(1, 3), 0, api.OK}, {span(5, 100000), 0, api.OK}, {span(100000, 100001), 4, api.OK}, {span(0, math.MaxInt), 18, api.OK}, {span(math.MaxInt, math.MaxInt), 0, api.OK},
		{span(3, 3), 0, api.OK}, {span(0, 0), 0, api.OK}, {span(4, 3), 0, api.ErrSpan}, {span(-1, 3), 0, api.ErrSpan}, {span(-2, -1), 0, api.ErrSpan}, {span(0, -1), 0, api.ErrSpan}, {span(math.MinInt, math.MaxInt), 0, api.ErrSpan}, {span(math.MaxInt, 0), 0, api.ErrSpan},
	} {
		n, e := night.Spent(rules(), l, x.s)
		is(t, fmt.Sprint("Spent ", i), n, x.n)
		is(t, fmt.Sprint("error of Spent ", i), e, x.e)
	}
	inOrder(t, "Counts", func(a arguments) (api.Errno, bool) {
		c, e := night.Counts(a.rules, a.moves)
		return e, len(c) == 0
	}, ruleFaults(), moveFaults())
	inOrder(t, "Left", func(a arguments) (api.Errno, bool) {
		n, e := night.Left(a.rules, a.moves)
		return e, n == 0
	}, ruleFaults(), moveFaults())
	inOrder(t, "Spent", func(a arguments) (api.Errno, bool) {
		n, e := night.Spent(a.rules, a.moves, a.nights)
		return e, n == 0
	}, ruleFaults(), moveFaults(), []fault{{func(a *arguments) { a.nights = span(4, 3) }, api.ErrSpan}})
}

// P7.1: the respite of nights.
func TestRespite(t *testing.T) {
	short := changedRules(func(r *night.Rules) { r.Night, r.Curfew = span(20, 21), span(20, 21) })
	three := changedRules(func(r *night.Rules) { r.Night, r.Curfew = span(1438, 1), span(0, 1) })
	of := func(minutes ...int) []night.Move {
		var l []night.Move
		for i, minute := range minutes {
			day := 4
			if minute < 720 {
				day = 5
			}
			l = append(l, move("f"+strconv.Itoa(i), "air", "jet", day, minute))
		}
		return l
	}
	for i, x := range []struct {
		r     night.Rules
		l     []night.Move
		night int
		s     api.Span
	}{
		{rules(), moves(), 3, span(161, 420)}, {rules(), moves(), 4, span(0, 420)}, {rules(), moves(), 0, span(0, 420)}, {rules(), nil, api.MaxDay, span(0, 420)},
		// Of several the first one.
		{rules(), append(moves(), move("f5", "air", "jet", 4, 230)), 3, span(161, 290)}, {rules(), append(moves(), move("f5", "air", "jet", 4, 229)), 3, span(290, 420)}, {rules(), append(moves(), move("f5", "air", "jet", 4, 231)), 3, span(161, 291)},
		{rules(), of(1380, 359), 4, span(1, 419)}, {rules(), of(1380), 4, span(1, 420)}, {rules(), of(359), 4, span(0, 419)}, {rules(), of(0), 4, span(61, 420)}, {rules(), of(360, 1379), 4, span(0, 420)}, {rules(), of(300), 4, span(0, 360)},
		// Two movements in one minute; movements of other nights, and none of this day.
		{rules(), of(20, 20), 4, span(81, 420)}, {rules(), []night.Move{move("f", "a", "jet", 4, 1400), move("g", "a", "jet", 4, 100), move("h", "a", "jet", 5, 1380)}, 4, span(21, 420)},
		{short, []night.Move{move("f1", "air", "jet", 4, 20)}, 4, span(0, 0)}, {short, []night.Move{move("f1", "air", "jet", 4, 20)}, 3, span(0, 1)}, {three, of(1438, 1439, 0), 4, span(0, 0)}, {three, of(1438, 0), 4, span(1, 2)}, {three, of(1439), 4, span(0, 1)}, {three, of(1438), 4, span(1, 3)}, {three, of(0), 4, span(0, 2)},
	} {
		s, e := night.Respite(x.r, x.l, x.night)
		is(t, fmt.Sprint("Respite ", i), s, x.s)
		is(t, "error of Respite", e, api.OK)
	}
	inOrder(t, "Respite", func(a arguments) (api.Errno, bool) {
		s, e := night.Respite(a.rules, a.moves, a.night)
		return e, s == api.Span{}
	}, ruleFaults(), moveFaults(), []fault{
		{func(a *arguments) { a.night = -1 }, api.ErrRange},
		{func(a *arguments) { a.night = api.MaxDay + 1 }, api.ErrRange},
	})
}

// nightOf returns the night of a movement by the definition, and whether it is in one: the minutes of the night of each day are walked, those after midnight on the day after it.
func nightOf(x night.Rules, m night.Move) (int, bool) {
	day := m.Day
	for i, minute := range walked(x.Night) {
		if i > 0 && minute == 0 {
			day--
		}
		if minute == m.Minute {
			return day, true
		}
	}
	return 0, false
}

// typeOf returns the type of a movement.
func typeOf(x night.Rules, name string) night.Type {
	var found night.Type
	for _, y := range x.Types {
		if y.Name == name {
			found = y
		}
	}
	return found
}

// P7.1: nights, counts, what is spent and the respite by the definition.
func TestMovesByDefinition(t *testing.T) {
	r := seeded()
	inNights, free := 0, 0
	for range 800 {
		x := someRules(r)
		l := someMoves(r, x, 12)
		what := fmt.Sprint(x, l)
		counts, e := night.Counts(x, l)
		is(t, "error of Counts of "+what, e, api.OK)
		of := map[int][]int{}
		spent := map[int]int{}
		for i, m := range l {
			own, in := nightOf(x, m)
			n, e := night.Night(x, m.Day, m.Minute)
			if !in {
				is(t, fmt.Sprint("error of Night of ", x.Night, m), e, api.ErrNone)
				is(t, "the count by day", counts[i], 0)
				continue
			}
			inNights++
			is(t, fmt.Sprint("Night of ", x.Night, m), n, own)
			is(t, "error of Night", e, api.OK)
			is(t, "the count by night", counts[i], typeOf(x, m.Type).Count)
			of[own] = append(of[own], m.Minute)
			spent[own] += counts[i]
		}
		for night0, minutes := range of {
			n, e := night.Spent(x, l, span(night0, night0+1))
			is(t, fmt.Sprint("Spent in ", night0, " of "+what), n, spent[night0])
			is(t, "error of Spent", e, api.OK)
			var want api.Span
			all := walked(x.Night)
			for i := range all {
				for j := i; j < len(all) && !slices.Contains(minutes, all[j]); j++ {
					if j+1-i > want.To-want.From {
						want = span(i, j+1)
					}
				}
			}
			s, e := night.Respite(x, l, night0)
			is(t, fmt.Sprint("Respite of ", night0, " of "+what), s, want)
			is(t, "error of Respite", e, api.OK)
			if want.From > 0 {
				free++
			}
		}
	}
	is(t, fmt.Sprint("many are in nights: ", inNights), inNights > 1500, true)
	is(t, fmt.Sprint("many respites do not begin with the night: ", free), free > 200, true)
}
