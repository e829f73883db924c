package office_test

import (
	"fmt"
	"math"
	"slices"
	"strconv"
	"strings"
	"testing"

	"flyover/api"
	"flyover/office"
)

// checked returns a body with its checksum and a line feed, by the definition.
func checked(body string) string {
	x := 11
	for i := range len(body) {
		x = (397*x + int(body[i])) % 9999943
	}
	sum := strconv.Itoa(x)
	for len(sum) < 7 {
		sum = "0" + sum
	}
	return body + "#" + sum + "\n"
}

// bodies returns those of events.
func bodies(l []api.Event) []string {
	var all []string
	for _, x := range l {
		all = append(all, strconv.Itoa(x.Number)+" "+line(x))
	}
	return all
}

// P10.3: logs of the document's examples, and of all kinds.
func TestAppend(t *testing.T) {
	all := told("match f 4 0", "match g 4 999999999", "match h 4 1", "correct jet 4 1", "offer o a 4 7", "pay o 4", "complain x a 5 0", "dismiss x 6", "flight k jet 6 1", "complain y b 6 0", "answer y k 7", "undo", "fund 999999999 0")
	log := ""
	for i, body := range bodies(all) {
		longer, e := office.Append(log, all[i])
		is(t, "Append of "+body, longer, log+checked(body))
		is(t, "error of Append of "+body, e, api.OK)
		log = longer
	}
	is(t, "the first record", log[:31], "1 type jet 1 100000000#"+log[23:30]+"\n")
	is(t, "a checksum with leading zeros", strings.Contains(recorded(t, events(each(999, "fund # 1")...)), "#00"), true)
	l, n, e := office.Recover(log)
	areEvents(t, "Recover", l, all)
	is(t, "length of Recover", n, len(log))
	is(t, "error of Recover", e, api.OK)
	// Events that are not accepted have records, too.
	longer, e := office.Append("", event(1, "pay o 5"))
	is(t, "Append of what is not accepted", longer, checked("1 pay o 5"))
	is(t, "error of Append of what is not accepted", e, api.OK)
}

// P10.3: the errors of Append.
func TestAppendErrors(t *testing.T) {
	one, full := checked("1 fund 0 1"), recorded(t, events(each(1000, "fund # 1")...))
	for i, x := range []struct {
		log string
		e   api.Event
		no  api.Errno
	}{
		{"", event(1, "undo"), api.OK}, {"", event(2, "undo"), api.ErrOrder}, {one, event(1, "undo"), api.ErrOrder}, {one, event(2, "undo"), api.OK}, {one, event(3, "undo"), api.ErrOrder}, {one, event(0, "undo"), api.ErrRange}, {one, event(1, "delay"), api.ErrKind}, {one, event(2, "fund 1"), api.ErrShape}, {one, event(2, "house a 1 1000000000"), api.ErrRange}, {one, event(2, "house a_# 1 1"), api.ErrName}, {one, api.Event{Number: 2, Kind: "undo", Text: "x"}, api.ErrForm},
		{one[:len(one)-1], event(1, "undo"), api.ErrTorn}, {one + "x", event(2, "undo"), api.ErrTorn}, {"\n", event(0, ""), api.ErrSyntax}, {one + one, event(0, ""), api.ErrOrder}, {strings.Replace(one, "f", "g", 1), event(0, ""), api.ErrCheck}, {strings.Repeat("x", 1000001), event(0, ""), api.ErrLong}, {strings.Repeat("x", 1000000), event(0, ""), api.ErrTorn},
		{full, event(1001, "undo"), api.ErrRange}, {full, event(1000, "undo"), api.ErrOrder}, {full[:strings.LastIndex(full[:len(full)-1], "\n")+1], event(1000, "undo"), api.OK},
	} {
		log, e := office.Append(x.log, x.e)
		is(t, fmt.Sprint("error of Append ", i), e, x.no)
		is(t, fmt.Sprint("a log of Append ", i), log != "", x.no == api.OK)
	}
}

// P10.3: what is recovered of logs with a rest, and its error.
func TestRecover(t *testing.T) {
	first, second := checked("1 type jet 1 100000000"), checked("2 house a 0 1000000000")
	for i, x := range []struct {
		rest string
		e    api.Errno
	}{
		{"", api.OK}, {"2", api.ErrTorn}, {"\xff", api.ErrTorn}, {checked("2 undo")[:14], api.ErrTorn}, {"2 undo#0000000", api.ErrTorn}, {strings.Repeat(" ", 5000), api.ErrTorn},
		{"\n", api.ErrSyntax}, {"\n\n", api.ErrSyntax}, {"x\n", api.ErrSyntax}, {"x\n" + first, api.ErrSyntax}, {"2 undo\n", api.ErrSyntax}, {"2 undo#\n", api.ErrSyntax}, {"2 undo#123456\n", api.ErrSyntax}, {"2 undo#12345678\n", api.ErrSyntax}, {"2 undo#123456x\n", api.ErrSyntax}, {"2 undo#-123456\n", api.ErrSyntax}, {"2 undo 1234567\n", api.ErrSyntax}, {"2 undo#123 567\n", api.ErrSyntax}, {"2 undo#\u0661\u0661\u06611\n", api.ErrSyntax}, {"1234567\n", api.ErrSyntax}, {"#123456\n", api.ErrSyntax}, {"#######\n", api.ErrSyntax},
		{strings.TrimSuffix(checked("2 undo"), "\n") + "\r\n", api.ErrSyntax}, {strings.TrimSuffix(checked("2 undo"), "\n") + " \n", api.ErrSyntax}, {strings.TrimSuffix(checked("2 undo"), "\n") + checked("3 undo"), api.ErrCheck},
		{"2 undo#0000000\n", api.ErrCheck}, {"#0000000\n", api.ErrCheck}, {"##0000000\n", api.ErrCheck}, {strings.Replace(first, "1", "2", 1), api.ErrCheck}, {strings.Replace(checked("2 undo"), "2", "3", 1), api.ErrCheck}, {strings.Replace(checked("2 undo"), "undo", "Undo", 1), api.ErrCheck},
		{checked(""), api.ErrSyntax}, {checked(" "), api.ErrSyntax}, {checked("2"), api.ErrSyntax}, {checked("2 "), api.ErrSyntax}, {checked("undo"), api.ErrSyntax}, {checked("2 delay"), api.ErrSyntax}, {checked("2 undo "), api.ErrSyntax}, {checked(" 2 undo"), api.ErrSyntax}, {checked("2  undo"), api.ErrSyntax}, {checked("2 undo 5"), api.ErrSyntax}, {checked("2 undo a"), api.ErrSyntax}, {checked("02 undo"), api.ErrSyntax}, {checked("+2 undo"), api.ErrSyntax}, {checked("-2 undo"), api.ErrSyntax}, {checked("0 undo"), api.ErrSyntax}, {checked("1001 undo"), api.ErrSyntax}, {checked("2000000000 undo"), api.ErrSyntax}, {checked("x undo"), api.ErrSyntax}, {checked("2#undo"), api.ErrSyntax},
		{second, api.ErrSyntax}, {checked("2 house a 0"), api.ErrSyntax}, {checked("2 house a 0 "), api.ErrSyntax}, {checked("2 house 0 0"), api.ErrSyntax}, {checked("2 house a b 0"), api.ErrSyntax}, {checked("2 house a 0 0 0"), api.ErrSyntax}, {checked("2 house a 00 0"), api.ErrSyntax}, {checked("2 house a -1 0"), api.ErrSyntax}, {checked("2 house a 0 1x"), api.ErrSyntax}, {checked("2 house  0 0"), api.ErrSyntax}, {checked("2 house a# 0 0"), api.ErrSyntax}, {checked("2 house " + strings.Repeat("a", 25) + " 0 0"), api.ErrSyntax}, {checked("2 House a 0 0"), api.ErrSyntax}, {checked("2 fund 0"), api.ErrSyntax}, {checked("2 flight a 0 0"), api.ErrSyntax}, {checked("2 flight a  0 0"), api.ErrSyntax}, {checked("2 flight a b c 0 0"), api.ErrSyntax}, {checked("2 fund 9999999999 0"), api.ErrSyntax}, {checked("2 undo#0"), api.ErrSyntax},
		{first, api.ErrOrder}, {checked("1 undo"), api.ErrOrder}, {checked("3 undo"), api.ErrOrder}, {checked("1000 undo"), api.ErrOrder}, {checked("3 undo") + checked("2 undo"), api.ErrOrder},
	} {
		l, n, e := office.Recover(first + x.rest)
		areEvents(t, fmt.Sprint("Recover ", i), l, events("type jet 1 100000000"))
		is(t, fmt.Sprint("length of Recover ", i), n, len(first))
		is(t, fmt.Sprintf("error of Recover %d: %.40q", i, x.rest), e, x.e)
		if x.e == api.ErrOrder {
			continue
		}
		l, n, e = office.Recover(x.rest)
		areEvents(t, fmt.Sprint("Recover of the rest ", i), l, nil)
		is(t, fmt.Sprint("length of Recover of the rest ", i), n, 0)
		is(t, fmt.Sprint("error of Recover of the rest ", i), e, x.e)
	}
	l, n, e := office.Recover(checked("2 undo"))
	areEvents(t, "Recover of a second event", l, nil)
	is(t, "length of Recover of a second event", n, 0)
	is(t, "error of Recover of a second event", e, api.ErrOrder)
}

// P10.3: logs as long as they may be, and longer.
func TestLongLogs(t *testing.T) {
	full := recorded(t, events(each(1000, "fund # 1")...))
	for i, x := range []struct {
		log string
		n   int
		e   api.Errno
	}{
		{full, 1000, api.OK}, {full + checked("1000 undo"), 1000, api.ErrOrder}, {full + checked("1001 undo"), 1000, api.ErrSyntax}, {full + "1", 1000, api.ErrTorn}, {full + "\n", 1000, api.ErrSyntax},
		{full + strings.Repeat("1", api.MaxLog-len(full)), 1000, api.ErrTorn}, {full + strings.Repeat("1", api.MaxLog-len(full)-1) + "\n", 1000, api.ErrSyntax}, {full + strings.Repeat("\n", api.MaxLog-len(full)), 1000, api.ErrSyntax}, {checked(strings.Repeat("#", api.MaxLog-9)), 0, api.ErrSyntax},
	} {
		l, length, e := office.Recover(x.log)
		is(t, fmt.Sprint("events of Recover ", i), len(l), x.n)
		is(t, fmt.Sprint("error of Recover ", i), e, x.e)
		is(t, fmt.Sprint("length of Recover ", i), length, x.n/1000*len(full))
	}
	for i, log := range []string{full + strings.Repeat("1", api.MaxLog-len(full)+1), strings.Repeat("\n", api.MaxLog+1), checked(strings.Repeat("#", api.MaxLog-8)), strings.Repeat(full, 100)} {
		l, length, e := office.Recover(log)
		areEvents(t, fmt.Sprint("Recover of too much ", i), l, nil)
		is(t, fmt.Sprint("length of Recover of too much ", i), length, 0)
		is(t, fmt.Sprint("error of Recover of too much ", i), e, api.ErrLong)
	}
}

// P10.3: logs that are cut off, and logs with changed bytes, by the definition.
func TestRecoverByDefinition(t *testing.T) {
	r := seeded()
	kinds := map[api.Errno]int{}
	for range 1500 {
		all := someJournal(r, 12)
		lines := strings.SplitAfter(recorded(t, all), "\n")
		switch r.Intn(5) {
		case 0:
			at := r.Intn(len(lines))
			lines = slices.Insert(lines, at, one(r, "", "x", checked("x"), checked(strconv.Itoa(at+2)+" undo"), checked(strconv.Itoa(at+1)+" undo 7"), checked(strconv.Itoa(at+1)+" undo")))
		case 1:
			at := r.Intn(len(lines))
			lines = slices.Delete(lines, at, at+1)
		}
		log := []byte(strings.Join(lines, ""))
		if len(log) > 0 && r.Intn(2) == 0 {
			log[r.Intn(len(log))] = "\n #019af\xff"[r.Intn(9)]
		}
		if r.Intn(3) == 0 {
			log = log[:r.Intn(len(log)+1)]
		}
		l, n, e := office.Recover(string(log))
		kinds[e]++
		what := fmt.Sprintf(" of %q", log)
		// The prefix is a log, no longer one is, and the rest has its error.
		prefix := ""
		for _, x := range bodies(l) {
			prefix += checked(x)
		}
		is(t, "the prefix"+what, string(log[:n]), prefix)
		rest := string(log[n:])
		first, _, ended := strings.Cut(rest, "\n")
		body, sum := first, ""
		if end := len(first) - 8; end >= 0 {
			body, sum = first[:end], first[end:]
		}
		number, err := strconv.Atoi(strings.SplitN(body, " ", 2)[0])
		want := api.ErrOrder
		switch {
		case rest == "":
			want = api.OK
		case !ended:
			want = api.ErrTorn
		case len(sum) != 8 || sum[0] != '#' || strings.Trim(sum[1:], "0123456789") != "":
			want = api.ErrSyntax
		case checked(body) != first+"\n":
			want = api.ErrCheck
		case err != nil || office.CheckEvent(event(number, strings.SplitN(body, " ", 2)[1])) != api.OK:
			want = api.ErrSyntax
		case number == len(l)+1:
			want = -1
		}
		is(t, "error"+what, e, want)
	}
	for _, e := range []api.Errno{api.OK, api.ErrTorn, api.ErrSyntax, api.ErrCheck, api.ErrOrder} {
		is(t, fmt.Sprint("each error is there: ", e, kinds), kinds[e] > 50, true)
	}
}

// P10.3: numbers of events that are none.
func TestAppendNumbers(t *testing.T) {
	for number, want := range map[int]api.Errno{math.MinInt: api.ErrRange, -1: api.ErrRange, 0: api.ErrRange, 1: api.OK, 2: api.ErrOrder, 1000: api.ErrOrder, 1001: api.ErrRange, math.MaxInt: api.ErrRange} {
		_, e := office.Append("", event(number, "undo"))
		is(t, fmt.Sprint("Append of the number ", number), e, want)
	}
}
