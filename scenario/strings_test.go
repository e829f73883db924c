package scenario_test

import (
	"fmt"
	"strconv"
	"strings"
	"testing"

	"flyover/api"
	"flyover/scenario"
)

// sampleString is the string of A.
const sampleString = "scenario a 3 1\ntype jet 100 50 20\ntype prop 10 10 10\nflight one jet 12 0\nflight two jet 20 1\nflight three prop 2 0\n"

// numbered returns n lines, each with its number in place of #.
func numbered(line string, n int) string {
	var s strings.Builder
	for i := range n {
		s.WriteString(strings.ReplaceAll(line, "#", strconv.Itoa(i)))
	}
	return s.String()
}

// lengthy returns a scenario whose string has 4096 bytes and some more.
func lengthy(more int) scenario.Scenario {
	s := of(16, 15, kinds(kind("t", alike(240, 10000000000)...), kind("u", make([]int, 240)...)))
	// Each digit more is a byte more.
	left := api.MaxText + more - len("scenario s 16 15\n") - 240*12 - len("type t\n") - 240*2 - len("type u\n")
	for i := range s.Types[1].Energies {
		digits := min(left, 13)
		left -= digits
		for range digits {
			s.Types[1].Energies[i] = max(1, s.Types[1].Energies[i]) * 10
		}
	}
	return s
}

// P9.5: strings of scenarios.
func TestPrint(t *testing.T) {
	name := strings.Repeat("a", 24)
	longest := of(1, 1, kinds(kind(name, most)), flight(name, name, 23, -16))
	longest.Name = name
	for i, x := range []struct {
		s scenario.Scenario
		l string
	}{
		{airport(), sampleString}, {of(1, 2, nil), "scenario s 1 2\n"}, {of(16, 16, nil), "scenario s 16 16\n"}, {flying(), "scenario a 3 1\ntype jet 100 50 20\ntype prop 10 10 10\n"}, {longest, "scenario " + name + " 1 1\ntype " + name + " 10000000000000\nflight " + name + " " + name + " 23 -16\n"},
		{of(2, 2, kinds(kind("b", 1, 20, 0, 4), kind("A_1", 9, 8, 7, 6)), flight("z", "b", 0, -1), flight("b", "A_1", 9, 16)), "scenario s 2 2\ntype b 1 20 0 4\ntype A_1 9 8 7 6\nflight z b 0 -1\nflight b A_1 9 16\n"},
		{of(1, 1, kinds(kind("t", 5)), flight("x", "t", 1, 0), flight("w", "t", 1, 0)), "scenario s 1 1\ntype t 5\nflight x t 1 0\nflight w t 1 0\n"},
	} {
		l, e := scenario.Print(x.s)
		is(t, fmt.Sprint("Print ", i), l, x.l)
		is(t, "error of Print", e, api.OK)
		s, at, e := scenario.Parse(x.l)
		isScenario(t, fmt.Sprint("Parse ", i), s, x.s)
		is(t, "index of Parse", at, 0)
		is(t, "error of Parse", e, api.OK)
	}
	for more := -1; more <= 1; more++ {
		s := lengthy(more)
		l, e := scenario.Print(s)
		if more > 0 {
			is(t, "Print of a string that is too long", l, "")
			is(t, "error of Print of a string that is too long", e, api.ErrLong)
			continue
		}
		is(t, "bytes of Print", len(l), api.MaxText+more)
		is(t, "error of Print", e, api.OK)
		back, _, e := scenario.Parse(l)
		isScenario(t, "Parse of a long string", back, s)
		is(t, "error of Parse of a long string", e, api.OK)
	}
	inOrder(t, "Print", func(a arguments) (api.Errno, bool) {
		l, e := scenario.Print(a.a)
		return e, l == ""
	}, faultsOf(first), []fault{{func(a *arguments) {
		full := lengthy(1)
		full.Types = append(full.Types, kind("v", make([]int, 240)...))
		// The flights that other faults change stay where they are.
		full.Flights = []scenario.Flight{flight("one", "t", 12, 0), flight("two", "t", 20, 1)}
		a.a = full
	}, api.ErrLong}})
}

// wrong is a string that is not one of a scenario, with the index and the error.
type wrong struct {
	s  string
	at int
	e  api.Errno
}

// areWrong tests that Parse returns the errors, and no scenario.
func areWrong(t *testing.T, l []wrong) {
	t.Helper()
	for _, x := range l {
		s, at, e := scenario.Parse(x.s)
		is(t, fmt.Sprintf("error of Parse %.80q", x.s), e, x.e)
		is(t, fmt.Sprintf("index of Parse %.80q", x.s), at, x.at)
		is(t, fmt.Sprintf("nothing of Parse %.80q", x.s), isNothing(s), true)
	}
}

// P9.5: the first line with an error.
func TestParseSyntax(t *testing.T) {
	const head, jet, one = "scenario a 1 1\n", "type jet 5\n", "flight one jet 12 0\n"
	areWrong(t, []wrong{
		{"", 0, api.ErrSyntax}, {strings.Repeat("x", 4096), 0, api.ErrSyntax}, {strings.Repeat("x", 4097), 0, api.ErrLong}, {strings.Repeat("\n", 4097), 0, api.ErrLong}, {head + strings.Repeat("x", 4096-len(head)), 1, api.ErrSyntax}, {head + strings.Repeat("x", 4097-len(head)), 0, api.ErrLong},
		{"\n", 0, api.ErrSyntax}, {"scenario a 1 1", 0, api.ErrSyntax}, {"scenario a 1\n", 0, api.ErrSyntax}, {"scenario a\n", 0, api.ErrSyntax}, {"scenario\n", 0, api.ErrSyntax}, {"scenario a 1 1 1\n", 0, api.ErrSyntax}, {"scenario a b 1 1\n", 0, api.ErrSyntax}, {"scenario  1 1\n", 0, api.ErrSyntax}, {"scenario a  1 1\n", 0, api.ErrSyntax}, {"scenario a 1 1 \n", 0, api.ErrSyntax}, {" scenario a 1 1\n", 0, api.ErrSyntax}, {"Scenario a 1 1\n", 0, api.ErrSyntax}, {"scenarios a 1 1\n", 0, api.ErrSyntax}, {"a 1 1\n", 0, api.ErrSyntax}, {"scenario\ta 1 1\n", 0, api.ErrSyntax}, {"scenario a 1 1\r\n", 0, api.ErrSyntax}, {"\n" + head, 0, api.ErrSyntax},
		{"scenario a 01 1\n", 0, api.ErrSyntax}, {"scenario a 1 -0\n", 0, api.ErrSyntax}, {"scenario a 1 -01\n", 0, api.ErrSyntax}, {"scenario a 1 +1\n", 0, api.ErrSyntax}, {"scenario a 1 --1\n", 0, api.ErrSyntax}, {"scenario a 1 -\n", 0, api.ErrSyntax}, {"scenario a 1 x\n", 0, api.ErrSyntax}, {"scenario a 1.0 1\n", 0, api.ErrSyntax}, {"scenario a 1 \u0661\n", 0, api.ErrSyntax}, {"scenario a 1 100000000000000\n", 0, api.ErrSyntax}, {"scenario a 1 -100000000000000\n", 0, api.ErrSyntax}, {"scenario a 1 99999999999999999999\n", 0, api.ErrSyntax},
		{jet, 0, api.ErrSyntax}, {one, 0, api.ErrSyntax}, {jet + head, 0, api.ErrSyntax}, {head + head, 1, api.ErrSyntax}, {head + jet + head, 2, api.ErrSyntax}, {head + jet + one + head, 3, api.ErrSyntax}, {head + "\n" + jet, 1, api.ErrSyntax}, {head + jet + one + "\n", 3, api.ErrSyntax}, {head + jet + one + "x", 3, api.ErrSyntax}, {head + jet + " ", 2, api.ErrSyntax},
		{head + "type\n", 1, api.ErrSyntax}, {head + "type \n", 1, api.ErrSyntax}, {head + "type  5\n", 1, api.ErrSyntax}, {head + "type jet 5", 1, api.ErrSyntax}, {head + "type jet \n", 1, api.ErrSyntax}, {head + "type jet  5\n", 1, api.ErrSyntax}, {head + "type jet 5 \n", 1, api.ErrSyntax}, {head + "type jet x\n", 1, api.ErrSyntax}, {head + "type jet 5 prop\n", 1, api.ErrSyntax}, {head + " type jet 5\n", 1, api.ErrSyntax}, {head + "Type jet 5\n", 1, api.ErrSyntax}, {head + "types jet 5\n", 1, api.ErrSyntax}, {head + "type jet 05\n", 1, api.ErrSyntax}, {head + "type jet -0\n", 1, api.ErrSyntax}, {head + "type jet 100000000000000\n", 1, api.ErrSyntax}, {head + jet + "type prop 00\n", 2, api.ErrSyntax},
		{head + "flight\n", 1, api.ErrSyntax}, {head + "flight one\n", 1, api.ErrSyntax}, {head + "flight one jet\n", 1, api.ErrSyntax}, {head + "flight one jet 12\n", 1, api.ErrSyntax}, {head + "flight one jet 12 0 0\n", 1, api.ErrSyntax}, {head + "flight one 12 0\n", 1, api.ErrSyntax}, {head + "flight  jet 12 0\n", 1, api.ErrSyntax}, {head + "flight one  12 0\n", 1, api.ErrSyntax}, {head + "flight one jet  12 0\n", 1, api.ErrSyntax}, {head + "flight one jet 12 0", 1, api.ErrSyntax}, {head + "flight one jet 12 0 \n", 1, api.ErrSyntax}, {head + "flight one jet 012 0\n", 1, api.ErrSyntax}, {head + "flight one jet 12 -0\n", 1, api.ErrSyntax}, {head + "flight one jet 12 x\n", 1, api.ErrSyntax}, {head + "flight one jet 12 -100000000000000\n", 1, api.ErrSyntax}, {head + "flights one jet 12 0\n", 1, api.ErrSyntax}, {head + jet + "flight one jet 12 0\r\n", 2, api.ErrSyntax},
		// No type comes after a flight, whether there are others before it or not.
		{head + one + jet, 2, api.ErrSyntax}, {head + jet + one + "type prop 5\n", 3, api.ErrSyntax}, {head + jet + one + one + jet + "x", 4, api.ErrSyntax}, {head + jet + one + "type prop 5", 3, api.ErrSyntax},
		// The first line that is wrong decides.
		{head + "x\ny\n", 1, api.ErrSyntax}, {"x\n" + jet + "y\n", 0, api.ErrSyntax}, {head + one + "x\n" + jet, 2, api.ErrSyntax},
	})
}

// P9.5: each line is right, but not the scenario; a line that is wrong comes before its errors.
func TestParseErrors(t *testing.T) {
	const head, jet, one = "scenario a 1 1\n", "type jet 5\n", "flight one jet 12 0\n"
	areWrong(t, []wrong{
		{"scenario 1 1 1\n", 1, api.ErrName}, {"scenario \xff 1 1\n" + jet, 2, api.ErrName}, {"scenario a\tb 1 1\n", 1, api.ErrName}, {"scenario " + strings.Repeat("a", 25) + " 1 1\n", 1, api.ErrName}, {"scenario 1 1 1\nx", 1, api.ErrSyntax}, {"scenario a 0 1\n", 1, api.ErrRange}, {"scenario a -1 1\n", 1, api.ErrRange}, {"scenario a 17 1\n", 1, api.ErrRange}, {"scenario a 1 99999999999999\n", 1, api.ErrRange}, {"scenario a 1 -99999999999999\n", 1, api.ErrRange}, {"scenario a 0 0\n" + jet + "x\n", 2, api.ErrSyntax},
		{head + numbered("type t# 5\n", 9), 10, api.ErrMany}, {head + numbered("type t# 5\n", 9) + "x", 10, api.ErrSyntax}, {head + "type 7 5\n", 2, api.ErrName}, {head + jet + jet, 3, api.ErrTwice}, {head + "type jet\n", 2, api.ErrShape}, {head + "type jet 5 5\n" + one, 3, api.ErrShape}, {head + "type jet -5\n", 2, api.ErrRange}, {head + "type jet 10000000000001\n", 2, api.ErrRange}, {head + "type jet 99999999999999\n", 2, api.ErrRange},
		{head + jet + numbered("flight f# jet 12 0\n", 33), 35, api.ErrMany}, {head + jet + "flight 7 jet 12 0\n", 3, api.ErrName}, {head + jet + one + one, 4, api.ErrTwice}, {head + one, 2, api.ErrUnknown}, {head + jet + "flight one glider 12 0\n", 3, api.ErrUnknown}, {head + jet + "flight one 7 12 0\n", 3, api.ErrUnknown}, {head + jet + "flight one jet 24 0\n", 3, api.ErrRange}, {head + jet + "flight one jet -1 0\n", 3, api.ErrRange}, {head + jet + "flight one jet 12 17\n", 3, api.ErrRange}, {head + jet + "flight one jet 12 -17\n", 3, api.ErrRange}, {head + jet + "flight one jet 12 -17\n" + one, 4, api.ErrRange},
	})
	s, at, e := scenario.Parse(head + numbered("type t# 5\n", 8) + numbered("flight f# t7 12 -16\n", 32))
	is(t, "types of a full scenario", len(s.Types), 8)
	is(t, "flights of a full scenario", len(s.Flights), 32)
	is(t, "index of Parse of a full scenario", at, 0)
	is(t, "error of Parse of a full scenario", e, api.OK)
	s, _, e = scenario.Parse("scenario a 1 1\ntype t 10000000000000\n")
	isScenario(t, "Parse of the greatest energy", s, scenario.Scenario{Name: "a", Width: 1, Height: 1, Types: kinds(kind("t", most))})
	is(t, "error of Parse of the greatest energy", e, api.OK)
}
