package night_test

import (
	"fmt"
	"strconv"
	"strings"
	"testing"

	"flyover/api"
	"flyover/night"
)

const sampleString = "move f1 air jet 3 1400\nmove f2 air jet 4 20\nmove f3 sky prop 4 100\nmove f4 sky prop 4 600\n"

// longest returns movements whose string has as many bytes as a string may have.
func longest() ([]night.Move, string) {
	var l []night.Move
	s := ""
	add := func(flight, airline string) {
		l = append(l, move(flight, airline, "p", 1, 0))
		s += "move " + flight + " " + airline + " p 1 0\n"
	}
	for i := range 232 {
		add("f"+strconv.Itoa(i), "a")
	}
	// The last line has what is left.
	add("g", strings.Repeat("a", api.MaxText-len(s)-len("move g  p 1 0\n")))
	return l, s
}

// short returns R with the type p.
func short() night.Rules { return changedRules(func(r *night.Rules) { r.Types[1].Name = "p" }) }

// P7.4: strings of movements.
func TestPrint(t *testing.T) {
	l, s := longest()
	long := append(l, move("h", "a", "p", 1, 0))
	for i, x := range []struct {
		r night.Rules
		l []night.Move
		s string
	}{
		{rules(), moves(), sampleString}, {rules(), nil, ""}, {rules(), []night.Move{move("F_9", "a", "prop", api.MaxDay, 0)}, "move F_9 a prop 100000 0\n"}, {rules(), []night.Move{move("f", "a", "jet", 1, 1439)}, "move f a jet 1 1439\n"},
		// Print does not ask how long the string is.
		{short(), l, s}, {short(), long, s + "move h a p 1 0\n"},
	} {
		s, e := night.Print(x.r, x.l)
		is(t, fmt.Sprint("Print ", i), s, x.s)
		is(t, fmt.Sprint("error of Print ", i), e, api.OK)
	}
	inOrder(t, "Print", func(a arguments) (api.Errno, bool) {
		s, e := night.Print(a.rules, a.moves)
		return e, s == ""
	}, ruleFaults(), moveFaults())
}

// P7.4: movements of strings.
func TestParse(t *testing.T) {
	l, s := longest()
	is(t, "bytes of the longest string", len(s), 4096)
	for i, x := range []struct {
		r night.Rules
		s string
		l []night.Move
	}{
		{rules(), sampleString, moves()}, {rules(), "", nil}, {rules(), "move F_9 a prop 100000 0\n", []night.Move{move("F_9", "a", "prop", api.MaxDay, 0)}}, {short(), s, l},
	} {
		l, at, e := night.Parse(x.r, x.s)
		are(t, fmt.Sprint("Parse ", i), l, x.l)
		is(t, "index", at, 0)
		is(t, "error", e, api.OK)
	}
}

// P7.4: the first line with an error, and the errors of the movements.
func TestParseErrors(t *testing.T) {
	_, full := longest()
	many := strings.Repeat("move a b c 1 0\n", 257)
	for _, x := range []struct {
		s  string
		at int
		e  api.Errno
	}{
		{full + "\n", 0, api.ErrLong}, {strings.Repeat("x", 4097), 0, api.ErrLong}, {strings.Repeat("\n", 4097), 0, api.ErrLong}, {strings.Repeat("x", 4096), 0, api.ErrSyntax}, {full[:4095], 232, api.ErrSyntax},
		{"\n", 0, api.ErrSyntax}, {"move", 0, api.ErrSyntax}, {"move\n", 0, api.ErrSyntax}, {"move f1 air jet 3 1400", 0, api.ErrSyntax}, {sampleString[:len(sampleString)-1], 3, api.ErrSyntax}, {sampleString + "\n", 4, api.ErrSyntax}, {sampleString + " ", 4, api.ErrSyntax}, {"\n" + sampleString, 0, api.ErrSyntax},
		{"move f1 air jet 3\n", 0, api.ErrSyntax}, {"move f1 air jet\n", 0, api.ErrSyntax}, {"move f1 air 3 1400\n", 0, api.ErrSyntax}, {"move f1 air jet 3 1400 1\n", 0, api.ErrSyntax}, {"move f1 air jet big 3 1400\n", 0, api.ErrSyntax}, {"f1 air jet 3 1400\n", 0, api.ErrSyntax},
		{"moves f1 air jet 3 1400\n", 0, api.ErrSyntax}, {"Move f1 air jet 3 1400\n", 0, api.ErrSyntax}, {" move f1 air jet 3 1400\n", 0, api.ErrSyntax}, {"move f1 air jet 3 1400 \n", 0, api.ErrSyntax}, {"move  f1 air jet 3 1400\n", 0, api.ErrSyntax}, {"move f1 air jet  3 1400\n", 0, api.ErrSyntax}, {"move f1 air jet 3 1400\r\n", 0, api.ErrSyntax}, {"move\tf1 air jet 3 1400\n", 0, api.ErrSyntax},
		{"move  air jet 3 1400\n", 0, api.ErrSyntax}, {"move f1  jet 3 1400\n", 0, api.ErrSyntax}, {"move f1 air  3 1400\n", 0, api.ErrSyntax}, {"move f1 air jet  1400\n", 0, api.ErrSyntax}, {"move f1 air jet 3 \n", 0, api.ErrSyntax},
		{"move f1 air jet 03 1400\n", 0, api.ErrSyntax}, {"move f1 air jet 3 01400\n", 0, api.ErrSyntax}, {"move f1 air jet 3 00\n", 0, api.ErrSyntax}, {"move f1 air jet -3 1400\n", 0, api.ErrSyntax}, {"move f1 air jet 3 +1\n", 0, api.ErrSyntax}, {"move f1 air jet 3 1.0\n", 0, api.ErrSyntax}, {"move f1 air jet x 1400\n", 0, api.ErrSyntax}, {"move f1 air jet 3 \u0661\n", 0, api.ErrSyntax},
		{"move f1 air jet 1000000000 1400\n", 0, api.ErrSyntax}, {"move f1 air jet 3 9999999999\n", 0, api.ErrSyntax}, {"move f1 air jet 999999999 1400\n", 1, api.ErrRange},
		// Each line that is wrong comes before what is wrong with the movements.
		{"move 7 air jet 3 1400\nmove f1 air jet 3\n", 1, api.ErrSyntax}, {"move f1 air kite 0 1400\nmove f1 air jet 3 1\nx", 2, api.ErrSyntax}, {many[:15*256] + "x\n", 256, api.ErrSyntax},
		{"move 7 air jet 3 1400\n", 1, api.ErrName}, {"move f\xff air jet 3 1400\n", 1, api.ErrName}, {"move f1 a\tb jet 3 1400\n", 1, api.ErrName}, {"move f1 3 jet 3 1400\n", 1, api.ErrName}, {"move f1 air kite 3 1\n", 1, api.ErrUnknown}, {"move f1 air 7 3 1\n", 1, api.ErrUnknown}, {"move f1 air jet 3 1\nmove f1 air jet 3 1\n", 2, api.ErrTwice},
		{"move f1 air jet 0 1\n", 1, api.ErrRange}, {"move f1 air jet 100001 1\n", 1, api.ErrRange}, {sampleString + "move f5 air jet 3 1440\n", 5, api.ErrRange}, {"move 7 air jet 3 1400\n" + sampleString, 5, api.ErrName}, {many, 257, api.ErrMany}, {many[:15*256], 256, api.ErrUnknown},
	} {
		l, at, e := night.Parse(rules(), x.s)
		is(t, fmt.Sprintf("error of Parse %.60q", x.s), e, x.e)
		is(t, fmt.Sprintf("index of Parse %.60q", x.s), at, x.at)
		are(t, "movements beside the error", l, nil)
	}
	inOrder(t, "Parse", func(a arguments) (api.Errno, bool) {
		l, at, e := night.Parse(a.rules, a.text)
		return e, len(l) == 0 && at == 0
	}, ruleFaults(), []fault{
		{func(a *arguments) { a.text = full + "\n" }, api.ErrLong},
		{func(a *arguments) { a.text = "x" }, api.ErrSyntax},
	})
}
