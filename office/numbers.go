package office

import (
	"strings"

	"flyover/api"
	"flyover/check"
	"flyover/list"
	"flyover/number"
	"flyover/sound"
	"flyover/text"
)

// arriving is a flight with its energy at a house.
type arriving struct {
	Flight
	energy int
}

// arriving returns all flights with their energies at a house.
func (r Register) arriving(h House) []arriving {
	return list.Mapped(r.Flights, func(f Flight) arriving {
		t := r.kind(f.Type)
		return arriving{f, number.Down(t.Energy*t.Factor*h.Share, Whole*Whole)}
	})
}

// number returns the energy and the level of a house.
func (r Register) number(h House) (int, int) {
	sum := 0
	for _, x := range r.arriving(h) {
		sum += x.energy
	}
	// So few flights are never too large for a level.
	level, _ := sound.Level(sum)
	return sum, level
}

// chain returns that of a house.
func (r Register) chain(h House) []Item {
	return list.Mapped(r.arriving(h), func(x arriving) Item { return Item{x.Name, x.energy} })
}

// byTypes returns the energies of all types at a house.
func (r Register) byTypes(h House) []Item {
	sums := map[string]int{}
	for _, x := range r.arriving(h) {
		sums[x.Type] += x.energy
	}
	return list.Mapped(r.Types, func(t Type) Item { return Item{t.Name, sums[t.Name]} })
}

// Number returns the energy and the level of a house.
func Number(l []api.Event, house string) (int, int, api.Errno) {
	r, i, e := find(l, Register.houseAt, house)
	if e != api.OK {
		return 0, 0, e
	}
	energy, level := r.number(r.Houses[i])
	return energy, level, api.OK
}

// Chain returns the energies of all flights at a house.
func Chain(l []api.Event, house string) ([]Item, api.Errno) {
	r, i, e := find(l, Register.houseAt, house)
	if e != api.OK {
		return nil, e
	}
	return r.chain(r.Houses[i]), api.OK
}

// ByTypes returns the energies of all types at a house.
func ByTypes(l []api.Event, house string) ([]Item, api.Errno) {
	r, i, e := find(l, Register.houseAt, house)
	if e != api.OK {
		return nil, e
	}
	return r.byTypes(r.Houses[i]), api.OK
}

// difference returns the first index at which two chains differ, or none.
func difference(a, b []Item) int {
	for i, x := range a {
		if i == len(b) || b[i] != x {
			return i
		}
	}
	if len(b) > len(a) {
		return len(a)
	}
	return none
}

// CheckChain returns OK for a chain that proves the number of a house, or the index of the first item that is wrong.
func CheckChain(l []api.Event, house string, chain []Item, level int) (int, api.Errno) {
	r, i, e := find(l, Register.houseAt, house)
	if e != api.OK {
		return 0, e
	}
	h := r.Houses[i]
	if wrong := difference(r.chain(h), chain); wrong != none {
		return wrong, api.ErrProof
	}
	_, right := r.number(h)
	return len(chain), check.That(level == right, api.ErrConflict)
}

// Published returns the level of a house in a map.
func Published(l []api.Event, name, house string) (int, api.Errno) {
	r, i, e := find(l, Register.mapAt, name)
	if e != api.OK {
		return 0, e
	}
	h, levels := r.houseAt(house), r.Maps[i].Levels
	if no := check.First(check.That(h != none, api.ErrUnknown), check.That(h < len(levels), api.ErrNone)); no != api.OK {
		return 0, no
	}
	return levels[h], api.OK
}

// mark returns that of a map by a key.
func (r Register) mark(m Map, key api.Key) api.Key {
	var lines strings.Builder
	for i, level := range m.Levels {
		lines.WriteString(text.Line(r.Houses[i].Name, level))
	}
	// The lines of all houses are never too long for a seal.
	seal, _ := sound.Seal(key, []byte(lines.String()))
	return seal
}

// Mark returns the seal of a map.
func Mark(l []api.Event, name string, key api.Key) (api.Key, api.Errno) {
	r, i, e := find(l, Register.mapAt, name)
	if e != api.OK {
		return api.Key{}, e
	}
	return r.mark(r.Maps[i], key), api.OK
}

// CheckMark returns OK for the seal of a map.
func CheckMark(l []api.Event, name string, key api.Key, seal api.Key) api.Errno {
	mark, e := Mark(l, name, key)
	return check.First(e, check.That(seal == mark, api.ErrCheck))
}
