package monitor

import (
	"slices"

	"flyover/api"
	"flyover/check"
	"flyover/list"
	"flyover/text"
)

// The first words of the lines of a record.
const (
	recordWord  = "record"
	secondWord  = "second"
	missingWord = "missing"
)

// How many digits the integers of these lines have at most.
const (
	recordDigits = 9
	secondDigits = 15
)

// line returns that of a second.
func line(n int) string {
	if n == Missing {
		return text.Line(missingWord)
	}
	return text.Line(secondWord, n)
}

// Print returns the string of a record.
func Print(r []int) (string, api.Errno) {
	if e := CheckRecord(r); e != api.OK {
		return "", e
	}
	return text.Joined(slices.Concat([]string{text.Line(recordWord, len(r))}, list.Mapped(r, line)))
}

// readCount returns how many seconds a record has by its line 0, and whether this is one.
func readCount(line string) (int, bool) {
	return text.Number(line, recordWord, recordDigits)
}

// readSecond returns the second of a line, and whether the line is that of one.
func readSecond(line string) (int, bool) {
	if line == text.Line(missingWord) {
		return Missing, true
	}
	return text.Number(line, secondWord, secondDigits)
}

// Parse returns the record of a string, and the index of the first line that is wrong.
func Parse(s string) ([]int, int, api.Errno) {
	r, at, e := text.Counted(s, readCount, readSecond)
	if no := check.First(e, CheckRecord(r)); no != api.OK {
		return nil, at, no
	}
	return r, 0, api.OK
}
