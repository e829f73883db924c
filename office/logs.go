package office

import (
	"slices"
	"strconv"
	"strings"

	"flyover/api"
	"flyover/check"
	"flyover/list"
	"flyover/text"
)

// What a checksum is computed with.
const (
	firstSum = 11
	sumTimes = 397
	sumLimit = 9999943
)

// sumDigits is how many a checksum has.
const sumDigits = 7

// beforeSum comes before the checksum of a record.
const beforeSum = '#'

// digits is how many an integer has at most.
const digits = 9

// form is how many words and integers there are after the first word of a line.
type form struct {
	words    int
	integers int
}

// read returns the words that are left, as words and integers, and whether they have the form.
func (f form) read(left text.Words) ([]string, []int, bool) {
	words, integers, ok := left.Fields(f.words, text.Integer, digits)
	return words, integers, ok && len(integers) == f.integers
}

// read returns the event of a kind with the words that are left, without its number, and whether they have its form.
func (all kinds) read(kind string, left text.Words) (api.Event, bool) {
	names, values, ok := all[kind].form().read(left)
	return api.Event{Kind: kind, Names: names, Values: values}, ok
}

// body returns that of an event.
func body(e api.Event) string {
	start := []string{strconv.Itoa(e.Number), e.Kind}
	return strings.Join(slices.Concat(start, e.Names, list.Mapped(e.Values, strconv.Itoa)), " ")
}

// readBody returns the event of a body, and whether it is one.
func (all kinds) readBody(s string) (api.Event, bool) {
	words := text.WordsIn(s)
	take := words.Next
	number, numbered := text.Integer(take(), digits)
	kind := take()
	e, ok := all.read(kind, words)
	e.Number = number
	return e, numbered && ok && all.check(e) == api.OK
}

// checksum returns that of a string.
func checksum(s string) string {
	x := firstSum
	for _, b := range []byte(s) {
		x = (sumTimes*x + int(b)) % sumLimit
	}
	sum := strconv.Itoa(x)
	return strings.Repeat("0", sumDigits-len(sum)) + sum
}

// areDigits reports whether a string has nothing but digits.
func areDigits(s string) bool {
	for _, r := range s {
		if r < '0' || r > '9' {
			return false
		}
	}
	return true
}

// record returns that of an event.
func record(e api.Event) string {
	s := body(e)
	return s + string(beforeSum) + checksum(s) + "\n"
}

// readRecord returns the event of a record, which must have a number, or the record's error.
func (all kinds) readRecord(line string, number int) (api.Event, api.Errno) {
	s := strings.TrimSuffix(line, "\n")
	end := len(s) - sumDigits - 1
	if end < 0 || s[end] != beforeSum || !areDigits(s[end+1:]) {
		return api.Event{}, api.ErrSyntax
	}
	if checksum(s[:end]) != s[end+1:] {
		return api.Event{}, api.ErrCheck
	}
	e, ok := all.readBody(s[:end])
	return e, check.First(check.That(ok, api.ErrSyntax), check.That(e.Number == number, api.ErrOrder))
}

// Recover returns the events of the longest prefix that is a log, and its length.
func Recover(log string) ([]api.Event, int, api.Errno) {
	if len(log) > api.MaxLog {
		return nil, 0, api.ErrLong
	}
	all := allKinds()
	lines := text.Lines(log)
	var l []api.Event
	length := 0
	for i := range len(lines) {
		if !strings.HasSuffix(lines[i], "\n") {
			return l, length, api.ErrTorn
		}
		e, no := all.readRecord(lines[i], i+1)
		if no != api.OK {
			return l, length, no
		}
		l = append(l, e)
		length += len(lines[i])
	}
	return l, length, api.OK
}

// Append returns a log with a further event.
func Append(log string, e api.Event) (string, api.Errno) {
	l, _, no := Recover(log)
	if no := check.First(no, CheckEvent(e), check.That(e.Number == len(l)+1, api.ErrOrder)); no != api.OK {
		return "", no
	}
	longer := log + record(e)
	if len(longer) > api.MaxLog {
		return "", api.ErrLong
	}
	return longer, api.OK
}
