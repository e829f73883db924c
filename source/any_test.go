package source_test

import (
	"math"
	"slices"
	"strings"
	"testing"

	"flyover/api"
	"flyover/source"
)

var (
	anyInts    = []int{math.MinInt, -100001, -1, 0, 1, 2, 8, 100, 1000, 1001, 20001, 400001, api.MaxTick, 1 << 62, math.MaxInt}
	anyStrings = []string{"", "\n", " ", "\x00", "\xff\n", "type", "type jet 1\nshares", jetString + "power", strings.Repeat(" ", 4096), strings.Repeat("type a 1\n", 1000), strings.Repeat("9", 1<<20)}
)

// tryInts calls all functions with arguments of which some have two integers.
func tryInts(a, b int) {
	t := changed(func(x *source.Type) {
		x.Shares, x.Squares, x.Direct[0], x.Side = []int{a, b}, []int{b, a}, a, b
		x.Settings = []source.Setting{{Power: a}, {Power: b, Energies: []int{a, b}}, {Energies: make([]int, 1000)}}
	})
	// Its squares are right, the rest is any: so the settings are examined.
	u := changed(func(x *source.Type) {
		x.Settings[0].Energies, x.Settings[1].Power = []int{a, b}, b
		x.Settings = append(x.Settings, source.Setting{Power: a}, source.Setting{})
	})
	v := at(a, b, a)
	l := []source.Fix{fix(a, b, a, b, a), fix(b, a, b, a, b)}
	m := append(flight(), fix(a, b, 0, 0, 1))
	s := source.State{At: v, Heading: api.Point{X: b, Y: a}, Power: a}
	path := []api.Point{{}, {X: a, Y: b}, {X: b, Y: a}}
	steps := []source.Step{{Power: 1}, {Along: a, Height: b, Power: b}}
	source.Sector(api.Point{X: a, Y: b}, api.Point{X: b, Y: a})
	source.Flown(path, climb(), b, a)
	source.Flown(path[1:], steps, a, b)
	source.CheckProcedure(steps)
	for _, x := range []source.Type{jet(), t, u, {}} {
		source.CheckType(x)
		source.Emission(x, a, b)
		source.Heard(x, s, v)
		source.Heard(x, source.State{Heading: api.Point{X: a}, Power: 1}, at(b, 0, 0))
		source.Banded(x, a)
		source.Print(x)
		for _, y := range [][]source.Fix{flight(), l, m, nil, slices.Repeat(l, 1000)} {
			source.Exposure(x, y, api.Span{From: a, To: b}, at(0, 0, 0))
			source.Exposure(x, y, api.Span{To: 9}, v)
			source.Maximum(x, y, api.Span{From: a, To: b}, at(0, 0, 0))
			source.Enclosed(x, y, at(a, 0, 0))
			flown := []source.Flight{{Name: "f", Type: x.Name, Track: y}, {Name: "g"}}
			source.CheckFlights([]source.Type{x, t}, flown)
			source.Total([]source.Type{x}, flown[:1], at(a, b, 0))
			source.Parts([]source.Type{x}, flown[:1], at(0, a, b))
			source.Loudest([]source.Type{x}, flown[:1], v)
			source.Loudest(nil, nil, v)
		}
	}
	for _, y := range [][]source.Fix{flight(), l, m, nil} {
		source.CheckTrack(y)
		source.At(y, a)
		source.Repaired(y, b)
		source.Joined(y, l)
		source.Joined(l, y)
	}
}

// P1: each function terminates and does not panic, for all arguments.
func TestAnyArguments(t *testing.T) {
	for _, a := range anyInts {
		for _, b := range anyInts {
			tryInts(a, b)
		}
	}
	for _, s := range anyStrings {
		source.Parse(s)
		source.CheckType(source.Type{Name: s})
		source.CheckFlights([]source.Type{jet()}, []source.Flight{{Name: s, Type: s}, {Name: "f", Type: s}})
	}
	r := seeded()
	for range 3000 {
		s := []byte(jetString)
		for range from(r, 1, 5) {
			s[r.Intn(len(s))] = "\n 019at\xff"[r.Intn(8)]
		}
		source.Parse(string(s))
		source.Parse(string(s[:r.Intn(len(s))]))
	}
}

// Arguments are not modified, and results share no memory with them or with each other.
func TestMemory(t *testing.T) {
	x, l := jet(), flight()
	later := []source.Fix{fix(10, 8, 0, 0, 20), fix(12, 9, 0, 0, 20)}
	wild := []source.Fix{fix(0, 0, 0, 0, 1), fix(1, 50, 0, 0, 2), fix(2, 2, 0, 0, 3)}
	flown := []source.Flight{{Name: "f", Type: "jet", Track: l}}
	path, steps := []api.Point{{}, {X: 10}}, climb()
	source.Print(x)
	source.Loudest([]source.Type{x}, flown, at(0, 0, 0))
	repaired, _ := source.Repaired(wild, 1)
	same, _ := source.Repaired(l, 2)
	joined, _ := source.Joined(l, later)
	bands, _ := source.Banded(x, 101)
	parts, _ := source.Parts([]source.Type{x}, flown, at(4, 2, 0))
	track, _ := source.Flown(path, steps, 4, 0)
	same[0].Tick, joined[0].Tick, joined[2].Tick, bands[0], parts[0], track[0].Power = 99, 99, 99, 99, 99, 99
	repaired = append(repaired, fix(9, 9, 9, 9, 9))
	repaired[0].Tick = 99
	areTypes(t, "the type", x, jet())
	are(t, "the track", l, flight())
	are(t, "the track of the flight", flown[0].Track, flight())
	are(t, "the later track", later, []source.Fix{fix(10, 8, 0, 0, 20), fix(12, 9, 0, 0, 20)})
	are(t, "the wild track", wild, []source.Fix{fix(0, 0, 0, 0, 1), fix(1, 50, 0, 0, 2), fix(2, 2, 0, 0, 3)})
	are(t, "the path", path, []api.Point{{}, {X: 10}})
	are(t, "the procedure", steps, climb())
	parsed, _, _ := source.Parse(jetString)
	for i := range parsed.Settings {
		parsed.Settings[i].Energies = append(parsed.Settings[i].Energies, 7)
		parsed.Settings[i].Energies[0] = 7
	}
	parsed.Shares[0], parsed.Squares[0] = 7, 7
	again, _, _ := source.Parse(jetString)
	areTypes(t, "Parse again", again, jet())
}
