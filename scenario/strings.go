package scenario

import (
	"slices"
	"strings"

	"flyover/api"
	"flyover/check"
	"flyover/list"
	"flyover/text"
)

// The first words of the lines of a scenario.
const (
	scenarioWord = "scenario"
	typeWord     = "type"
	flightWord   = "flight"
)

// digits is how many an integer of a line has at most.
const digits = 14

// line returns the line 0 of a scenario.
func (s Scenario) line() string {
	return text.Line(scenarioWord+" "+s.Name, s.Width, s.Height)
}

// line returns the line of a type.
func (t Type) line() string {
	return text.Line(typeWord+" "+t.Name, t.Energies...)
}

// line returns the line of a flight.
func (f Flight) line() string {
	return text.Line(strings.Join([]string{flightWord, f.Name, f.Type}, " "), f.Hour, f.Shift)
}

// Print returns the string of a scenario.
func Print(s Scenario) (string, api.Errno) {
	if e := CheckScenario(s); e != api.OK {
		return "", e
	}
	return text.Joined(slices.Concat(
		[]string{s.line()},
		list.Mapped(s.Types, Type.line),
		list.Mapped(s.Flights, Flight.line),
	))
}

// readScenario returns the scenario of the line 0, without types and flights, and whether the line has its form.
func readScenario(line string) (Scenario, bool) {
	words, l, ok := text.Fields(line, scenarioWord, 1, text.Signed, digits)
	if !ok || len(l) != 2 {
		return Scenario{}, false
	}
	return Scenario{Name: words[0], Width: l[0], Height: l[1]}, true
}

// readType returns the type of a line, and whether the line has the form of one.
func readType(line string) (Type, bool) {
	words, l, ok := text.Fields(line, typeWord, 1, text.Signed, digits)
	if !ok {
		return Type{}, false
	}
	return Type{Name: words[0], Energies: l}, true
}

// readFlight returns the flight of a line, and whether the line has the form of one.
func readFlight(line string) (Flight, bool) {
	words, l, ok := text.Fields(line, flightWord, 2, text.Signed, digits)
	if !ok || len(l) != 2 {
		return Flight{}, false
	}
	return Flight{Name: words[0], Type: words[1], Hour: l[0], Shift: l[1]}, true
}

// parts are the types and the flights of lines.
type parts struct {
	types   []Type
	flights []Flight
}

// read takes the type or the flight of a line, and reports whether the line has the form of one that may be there.
func (p *parts) read(line string) (struct{}, bool) {
	// No type comes after a flight.
	if t, ok := readType(line); ok && len(p.flights) == 0 {
		p.types = append(p.types, t)
		return struct{}{}, true
	}
	f, ok := readFlight(line)
	p.flights = append(p.flights, f)
	return struct{}{}, ok
}

// Parse returns the scenario of a string, and the index of the first line that is wrong.
func Parse(s string) (Scenario, int, api.Errno) {
	var p parts
	x, _, at, e := text.Headed(s, readScenario, p.read)
	x.Types, x.Flights = p.types, p.flights
	if no := check.First(e, CheckScenario(x)); no != api.OK {
		return Scenario{}, at, no
	}
	return x, 0, api.OK
}
