package monitor_test

import (
	"fmt"
	"slices"
	"strings"
	"testing"

	"flyover/api"
	"flyover/monitor"
)

const sampleString = "record 8\nsecond 5\nsecond 50\nsecond 60\nmissing\nsecond 55\nsecond 4\nsecond 4\nsecond 90\n"

// longest returns the string of a record with as many bytes as a string may have.
func longest() string {
	return "record 510\n" + strings.Repeat("missing\n", 508) + "second 0\nsecond 1000\n"
}

// P5.4: strings of records.
func TestPrint(t *testing.T) {
	// 11 bytes, 8 for each missing second, 9 and 12 for the other ones.
	full := slices.Concat(alike(508, -1), []int{0, 1000})
	for i, x := range []struct {
		r []int
		s string
		e api.Errno
	}{
		{sample(), sampleString, api.OK}, {[]int{-1}, "record 1\nmissing\n", api.OK}, {[]int{0, api.MaxEnergy}, "record 2\nsecond 0\nsecond 10000000000000\n", api.OK},
		{full, longest(), api.OK}, {slices.Concat(full[:508], []int{0, 10000}), "", api.ErrLong}, {alike(1024, -1), "", api.ErrLong},
		{nil, "", api.ErrEmpty}, {alike(1025, -1), "", api.ErrMany}, {[]int{-2}, "", api.ErrRange}, {slices.Concat(alike(1000, 0), []int{-2}), "", api.ErrRange}, {[]int{api.MaxEnergy + 1}, "", api.ErrRange},
	} {
		s, e := monitor.Print(x.r)
		is(t, fmt.Sprint("Print ", i), s, x.s)
		is(t, fmt.Sprint("error of Print ", i), e, x.e)
	}
}

// P5.4: records of strings.
func TestParse(t *testing.T) {
	is(t, "bytes of the longest string", len(longest()), 4096)
	for i, x := range []struct {
		s string
		r []int
	}{
		{sampleString, sample()}, {"record 1\nmissing\n", []int{-1}}, {"record 1\nsecond 0\n", []int{0}}, {"record 1\nsecond 10000000000000\n", []int{api.MaxEnergy}},
		{longest(), slices.Concat(alike(508, -1), []int{0, 1000})},
	} {
		r, at, e := monitor.Parse(x.s)
		are(t, fmt.Sprint("Parse ", i), r, x.r)
		is(t, "index", at, 0)
		is(t, "error", e, api.OK)
	}
}

// P5.4: the first line with an error, and the errors of the record.
func TestParseErrors(t *testing.T) {
	long := "record 510\n" + strings.Repeat("missing\n", 509) + "second"
	long += strings.Repeat("1", 4096-len(long))
	for _, x := range []struct {
		s  string
		at int
		e  api.Errno
	}{
		{long, 510, api.ErrSyntax}, {long + "\n", 0, api.ErrLong}, {longest() + "\n", 0, api.ErrLong}, {strings.Repeat("\n", 4097), 0, api.ErrLong},
		{"", 0, api.ErrSyntax}, {"\n", 0, api.ErrSyntax}, {"record 1", 0, api.ErrSyntax}, {"record\n", 0, api.ErrSyntax}, {"record \n", 0, api.ErrSyntax}, {"record  1\n", 0, api.ErrSyntax}, {"record 1 \n", 0, api.ErrSyntax},
		{" record 1\n", 0, api.ErrSyntax}, {"record 1 2\n", 0, api.ErrSyntax}, {"Record 1\n", 0, api.ErrSyntax}, {"records 1\n", 0, api.ErrSyntax}, {"record 01\nmissing\n", 0, api.ErrSyntax}, {"record -1\n", 0, api.ErrSyntax}, {"record +1\n", 0, api.ErrSyntax},
		{"record x\n", 0, api.ErrSyntax}, {"record 1\r\n", 0, api.ErrSyntax}, {"record\t1\n", 0, api.ErrSyntax}, {"record 1000000000\n", 0, api.ErrSyntax}, {"record 999999999\n", 1, api.ErrShape}, {"record \u0661\n", 0, api.ErrSyntax},
		{"missing\n", 0, api.ErrSyntax}, {"second 1\n", 0, api.ErrSyntax}, {"record 1\nrecord 1\n", 1, api.ErrSyntax}, {"record 1\n\n", 1, api.ErrSyntax}, {"record 0\n\n", 1, api.ErrSyntax}, {"\nrecord 1\nmissing\n", 0, api.ErrSyntax},
		{"record 1\nmissing", 1, api.ErrSyntax}, {"record 1\nmissing \n", 1, api.ErrSyntax}, {"record 1\nmissing 1\n", 1, api.ErrSyntax}, {"record 1\n missing\n", 1, api.ErrSyntax}, {"record 1\nMissing\n", 1, api.ErrSyntax}, {"record 1\nmissing\r\n", 1, api.ErrSyntax},
		{"record 1\nsecond 1", 1, api.ErrSyntax}, {"record 1\nsecond\n", 1, api.ErrSyntax}, {"record 1\nsecond \n", 1, api.ErrSyntax}, {"record 1\nsecond -1\n", 1, api.ErrSyntax}, {"record 1\nsecond 00\n", 1, api.ErrSyntax}, {"record 1\nsecond 1 1\n", 1, api.ErrSyntax},
		{"record 1\nseconds 1\n", 1, api.ErrSyntax}, {"record 1\nsecond missing\n", 1, api.ErrSyntax}, {"record 1\nsecond 1000000000000000\n", 1, api.ErrSyntax}, {"record 1\nsecond 99999999999999999999\n", 1, api.ErrSyntax},
		{"record 3\nsecond 1\nmissing\nsecond x\n", 3, api.ErrSyntax}, {"record 2\nsecond 999999999999999\nmissing x\n", 2, api.ErrSyntax}, {"record 1\nmissing\nmissing", 2, api.ErrSyntax},
		// Each line is right, but not the record.
		{"record 0\n", 1, api.ErrEmpty}, {"record 1\n", 1, api.ErrShape}, {"record 0\nmissing\n", 2, api.ErrShape}, {"record 2\nmissing\n", 2, api.ErrShape}, {"record 1\nmissing\nmissing\n", 3, api.ErrShape}, {"record 2\nsecond 999999999999999\n", 2, api.ErrShape},
		{"record 1\nsecond 999999999999999\n", 2, api.ErrRange}, {"record 2\nmissing\nsecond 10000000000001\n", 3, api.ErrRange},
	} {
		r, at, e := monitor.Parse(x.s)
		is(t, fmt.Sprintf("error of Parse %.60q", x.s), e, x.e)
		is(t, fmt.Sprintf("index of Parse %.60q", x.s), at, x.at)
		are(t, "record beside the error", r, nil)
	}
}
