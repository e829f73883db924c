package office_test

import (
	"fmt"
	"math"
	"slices"
	"strconv"
	"testing"

	"flyover/api"
	"flyover/office"
	"flyover/sound"
)

// items returns those of a chain with one energy each.
func items(energy int, names ...string) []office.Item {
	var l []office.Item
	for _, name := range names {
		l = append(l, item(name, energy))
	}
	return l
}

// loudest has the lines of as many flights as there may be, with the greatest energies.
func loudest() []string {
	lines := []string{"type jet 0 999999999", "house a 0 1000"}
	lines = append(lines, each(64, "flight f# jet 0 0")...)
	return append(lines, "match f0 0 0", "match f1 0 0", "match f2 0 0", "correct jet 0 2000")
}

// P10.2: energies and levels of houses.
func TestNumber(t *testing.T) {
	for i, x := range []struct {
		l      []api.Event
		house  string
		energy int
		level  int
	}{
		{told(), "a", 150000000, 71}, {told(), "b", 300000, 44}, {told()[:3], "a", 0, -1}, {told("undo"), "a", 150000000, 71}, {told()[:6], "a", 150000000, 71}, {append(told()[:6], event(7, "undo")), "a", 100000000, 70},
		{matched("correct jet 4 500"), "a", 75000000, 68}, {matched("correct jet 4 1999"), "b", 599700, 47}, {matched("correct jet 4 500", "correct jet 4 2000"), "b", 600000, 47}, {matched("correct jet 4 500", "undo"), "a", 150000000, 71}, {matched("correct jet 4 1"), "a", 150000, 41},
		{told("house c 4 0"), "c", 0, -1}, {told("house c 4 1000"), "c", 300000000, 74}, {told("type prop 4 999999999"), "a", 150000000, 71}, {told("type prop 4 19", "flight p prop 4 0"), "a", 150000009, 71},
		// Each energy is rounded down once, on its own.
		{events("type t 0 999", "house a 0 1", "flight f t 0 0", "flight g t 0 0"), "a", 0, -1}, {events("type t 0 1999", "house a 0 500", "flight f t 0 0", "flight g t 0 0"), "a", 1998, 22}, {events("type t 0 15", "house a 0 500", "flight f t 0 0", "match f 0 0", "flight g t 0 0", "match g 0 0", "flight h t 0 0", "match h 0 0", "correct t 0 199"), "a", 3, -1}, {events("type t 0 3", "house a 0 999", "flight f t 0 0", "match f 0 0", "flight g t 0 0", "match g 0 0", "flight h t 0 0", "match h 0 0", "correct t 0 1001"), "a", 6, -1},
		{events("type t 0 10", "house a 0 1000", "flight f t 0 0"), "a", 10, 0}, {events("type t 0 9", "house a 0 1000", "flight f t 0 0"), "a", 9, -1}, {events("type t 0 0", "house a 0 1000", "flight f t 0 0"), "a", 0, -1}, {events(loudest()...), "a", 127999999872, 100},
	} {
		energy, level, e := office.Number(x.l, x.house)
		is(t, fmt.Sprint("energy of Number ", i), energy, x.energy)
		is(t, fmt.Sprint("level of Number ", i), level, x.level)
		is(t, fmt.Sprint("error of Number ", i), e, api.OK)
	}
	for _, house := range []string{"c", "", "A", "jet", "f", "m", "\xff"} {
		energy, level, e := office.Number(told(), house)
		is(t, "energy of "+house, energy, 0)
		is(t, "level of "+house, level, 0)
		is(t, "error of "+house, e, api.ErrUnknown)
	}
}

// P10.2: chains, and energies by types.
func TestChainAndByTypes(t *testing.T) {
	two := []string{"type prop 4 1999", "flight k prop 4 5", "type kite 4 7", "flight l jet 4 5"}
	for i, x := range []struct {
		l     []api.Event
		house string
		chain []office.Item
		types []office.Item
	}{
		{told(), "a", items(50000000, "f", "g", "h"), items(150000000, "jet")}, {told(), "b", items(100000, "f", "g", "h"), items(300000, "jet")}, {told()[:3], "a", nil, items(0, "jet")}, {events("house a 0 5"), "a", nil, nil}, {events("house a 0 5", "type f 0 5", "undo"), "a", nil, nil},
		{told(two...), "a", []office.Item{item("f", 50000000), item("g", 50000000), item("h", 50000000), item("k", 999), item("l", 50000000)}, []office.Item{item("jet", 200000000), item("prop", 999), item("kite", 0)}}, {told(two...), "b", []office.Item{item("f", 100000), item("g", 100000), item("h", 100000), item("k", 1), item("l", 100000)}, []office.Item{item("jet", 400000), item("prop", 1), item("kite", 0)}},
		{matched("correct jet 4 500"), "a", items(25000000, "f", "g", "h"), items(75000000, "jet")}, {told("house c 4 0"), "c", items(0, "f", "g", "h"), items(0, "jet")},
		// The sum of a type is that of energies that are rounded down.
		{events("type t 0 1999", "house a 0 500", "flight f t 0 0", "flight g t 0 0"), "a", items(999, "f", "g"), items(1998, "t")},
	} {
		chain, e := office.Chain(x.l, x.house)
		are(t, fmt.Sprint("Chain ", i), chain, x.chain)
		is(t, fmt.Sprint("error of Chain ", i), e, api.OK)
		types, e := office.ByTypes(x.l, x.house)
		are(t, fmt.Sprint("ByTypes ", i), types, x.types)
		is(t, fmt.Sprint("error of ByTypes ", i), e, api.OK)
	}
	for _, house := range []string{"c", "", "A", "jet", "f"} {
		chain, e := office.Chain(told(), house)
		are(t, "Chain of "+house, chain, nil)
		is(t, "error of Chain of "+house, e, api.ErrUnknown)
		types, e := office.ByTypes(told(), house)
		are(t, "ByTypes of "+house, types, nil)
		is(t, "error of ByTypes of "+house, e, api.ErrUnknown)
	}
}

// P10.2: chains that prove a level, and others.
func TestCheckChain(t *testing.T) {
	right := items(50000000, "f", "g", "h")
	changed := func(i int, x office.Item) []office.Item {
		l := slices.Clone(right)
		l[i] = x
		return l
	}
	for i, x := range []struct {
		l     []api.Event
		house string
		chain []office.Item
		level int
		n     int
		e     api.Errno
	}{
		{told(), "a", right, 71, 3, api.OK}, {told(), "a", right, 70, 3, api.ErrConflict}, {told(), "a", right, 72, 3, api.ErrConflict}, {told(), "a", right, -1, 3, api.ErrConflict}, {told(), "a", right, math.MinInt, 3, api.ErrConflict}, {told(), "b", items(100000, "f", "g", "h"), 44, 3, api.OK},
		{told(), "a", right[:2], 71, 2, api.ErrProof}, {told(), "a", right[:2], 70, 2, api.ErrProof}, {told(), "a", nil, 71, 0, api.ErrProof}, {told(), "a", append(slices.Clone(right), item("k", 0)), 71, 3, api.ErrProof}, {told(), "a", append(slices.Clone(right), right...), 71, 3, api.ErrProof}, {told(), "a", slices.Repeat(right, 1000), 71, 3, api.ErrProof},
		{told(), "a", changed(0, item("g", 50000000)), 71, 0, api.ErrProof}, {told(), "a", changed(1, item("g", 50000001)), 71, 1, api.ErrProof}, {told(), "a", changed(1, item("g", 49999999)), 5, 1, api.ErrProof}, {told(), "a", changed(2, item("", 50000000)), 71, 2, api.ErrProof}, {told(), "a", changed(2, item("H", 50000000)), 71, 2, api.ErrProof}, {told(), "a", changed(0, item("f", -50000000)), 71, 0, api.ErrProof}, {told(), "b", right, 71, 0, api.ErrProof},
		// The same sum by other items proves nothing.
		{told(), "a", []office.Item{item("f", 50000000), item("g", 40000000), item("h", 60000000)}, 71, 1, api.ErrProof}, {told(), "a", []office.Item{item("g", 50000000), item("f", 50000000), item("h", 50000000)}, 71, 0, api.ErrProof}, {told(), "a", []office.Item{item("f", math.MaxInt), item("g", math.MaxInt)}, 71, 0, api.ErrProof},
		{told()[:3], "a", nil, -1, 0, api.OK}, {told()[:3], "a", []office.Item{}, 0, 0, api.ErrConflict}, {told()[:3], "a", right, -1, 0, api.ErrProof}, {matched("correct jet 4 500"), "a", right, 71, 0, api.ErrProof}, {matched("correct jet 4 500"), "a", items(25000000, "f", "g", "h"), 68, 3, api.OK},
		{told(), "c", right, 71, 0, api.ErrUnknown}, {told(), "", right[:1], 71, 0, api.ErrUnknown}, {told(), "jet", nil, 71, 0, api.ErrUnknown},
	} {
		n, e := office.CheckChain(x.l, x.house, x.chain, x.level)
		is(t, fmt.Sprint("index of CheckChain ", i), n, x.n)
		is(t, fmt.Sprint("error of CheckChain ", i), e, x.e)
	}
}

// P10.2: levels of published maps.
func TestPublished(t *testing.T) {
	later := matched("house c 4 900", "correct jet 4 500", "publish n 5", "house d 5 0")
	for i, x := range []struct {
		l     []api.Event
		name  string
		house string
		level int
		e     api.Errno
	}{
		{told(), "m", "a", 71, api.OK}, {told(), "m", "b", 44, api.OK}, {later, "m", "a", 71, api.OK}, {later, "m", "b", 44, api.OK}, {later, "n", "a", 68, api.OK}, {later, "n", "c", 71, api.OK}, {later, "m", "c", 0, api.ErrNone}, {later, "m", "d", 0, api.ErrNone}, {later, "n", "d", 0, api.ErrNone},
		{told(), "n", "a", 0, api.ErrUnknown}, {told(), "", "a", 0, api.ErrUnknown}, {told(), "a", "m", 0, api.ErrUnknown}, {told(), "m", "c", 0, api.ErrUnknown}, {told(), "m", "", 0, api.ErrUnknown}, {told(), "m", "jet", 0, api.ErrUnknown}, {told()[:6], "m", "a", 0, api.ErrUnknown}, {later, "o", "e", 0, api.ErrUnknown},
		{events("house a 0 0", "publish m 0"), "m", "a", -1, api.OK},
	} {
		level, e := office.Published(x.l, x.name, x.house)
		is(t, fmt.Sprint("Published ", i), level, x.level)
		is(t, fmt.Sprint("error of Published ", i), e, x.e)
	}
}

// P10.2: marks of maps, which are the seals of their strings.
func TestMark(t *testing.T) {
	keys := []api.Key{{}, {1}, {0, 0, 0, 0, 0, 0, 0, 1}, {1, 2, 3, 4, 5, 6, 7, 8}, {255, 255, 255, 255, 255, 255, 255, 255}}
	var crowd []string
	wide := ""
	for i := range 32 {
		crowd = append(crowd, "house h"+strconv.Itoa(i)+" 0 1000")
		wide += "h" + strconv.Itoa(i) + " 60\n"
	}
	crowd = append(crowd, "type jet 0 10000000", "flight f jet 0 0", "publish m 0")
	later := matched("house c 4 900", "correct jet 4 500", "publish n 5", "house d 5 0")
	for i, x := range []struct {
		l    []api.Event
		name string
		s    string
	}{
		{told(), "m", "a 71\nb 44\n"}, {later, "m", "a 71\nb 44\n"}, {later, "n", "a 68\nb 41\nc 71\n"}, {events("house a 0 0", "publish m 0"), "m", "a -1\n"}, {events("type t 0 10", "house a 0 1000", "flight f t 0 0", "publish m 0"), "m", "a 0\n"}, {events(crowd...), "m", wide},
	} {
		for _, key := range keys {
			want, _ := sound.Seal(key, []byte(x.s))
			mark, e := office.Mark(x.l, x.name, key)
			is(t, fmt.Sprint("Mark ", i), mark, want)
			is(t, fmt.Sprint("error of Mark ", i), e, api.OK)
			is(t, fmt.Sprint("CheckMark ", i), office.CheckMark(x.l, x.name, key, want), api.OK)
			for j := range want {
				wrong := want
				wrong[j]++
				is(t, fmt.Sprint("CheckMark of another seal ", i), office.CheckMark(x.l, x.name, key, wrong), api.ErrCheck)
				other := key
				other[j]++
				is(t, fmt.Sprint("CheckMark by another key ", i), office.CheckMark(x.l, x.name, other, want), api.ErrCheck)
			}
		}
	}
	for _, name := range []string{"n", "", "M", "a", "jet"} {
		mark, e := office.Mark(told(), name, api.Key{1})
		is(t, "Mark of "+name, mark, api.Key{})
		is(t, "error of Mark of "+name, e, api.ErrUnknown)
		is(t, "CheckMark of "+name, office.CheckMark(told(), name, api.Key{1}, api.Key{}), api.ErrUnknown)
	}
}

// P10.2: numbers, chains and maps by the definition.
func TestNumbersByDefinition(t *testing.T) {
	r := seeded()
	most, published := 0, 0
	for range 150 {
		l := someJournal(r, 80)
		want := folded(counting(l))
		for i, h := range want.Houses {
			what := fmt.Sprint(" of ", h, " in ", l)
			sum, level := numberOf(want, h.Name)
			most = max(most, level)
			energy, k, e := office.Number(l, h.Name)
			are(t, "Number"+what, []int{energy, k}, []int{sum, level})
			is(t, "error of Number"+what, e, api.OK)
			var chain, types []office.Item
			for _, f := range want.Flights {
				for _, x := range want.Types {
					if x.Name == f.Type {
						chain = append(chain, item(f.Name, x.Energy*x.Factor*h.Share/1000000))
					}
				}
			}
			for _, x := range want.Types {
				all := item(x.Name, 0)
				for j, f := range want.Flights {
					if f.Type == x.Name {
						all.Energy += chain[j].Energy
					}
				}
				types = append(types, all)
			}
			got, e := office.Chain(l, h.Name)
			are(t, "Chain"+what, got, chain)
			is(t, "error of Chain"+what, e, api.OK)
			got, e = office.ByTypes(l, h.Name)
			are(t, "ByTypes"+what, got, types)
			is(t, "error of ByTypes"+what, e, api.OK)
			for _, m := range want.Maps {
				level, e := office.Published(l, m.Name, h.Name)
				if i >= len(m.Levels) {
					is(t, "error of Published"+what, e, api.ErrNone)
					continue
				}
				is(t, "Published"+what, level, m.Levels[i])
				is(t, "error of Published"+what, e, api.OK)
				published++
			}
		}
	}
	is(t, fmt.Sprint("many levels: ", most, published), most > 80 && published > 500, true)
}
