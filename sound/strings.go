package sound

import (
	"slices"

	"flyover/api"
	"flyover/check"
	"flyover/list"
	"flyover/text"
)

// The first words of the lines of a string of energies.
const (
	countWord  = "energies"
	energyWord = "energy"
)

// forms returns how many digits the integer of a line has at most, by the line's first word.
func forms() map[string]int {
	return map[string]int{countWord: 9, energyWord: 15}
}

// Print returns the string of energies.
func Print(l []int) (string, api.Errno) {
	if e := checkEnergies(l); e != api.OK {
		return "", e
	}
	lines := list.Mapped(l, func(n int) string { return text.Line(energyWord, n) })
	return text.Joined(slices.Concat([]string{text.Line(countWord, len(l))}, lines))
}

// reader returns what finds the integer of a line with a word.
func reader(word string) func(line string) (int, bool) {
	digits := forms()[word]
	return func(line string) (int, bool) { return text.Number(line, word, digits) }
}

// Parse returns the energies of a string, and the index of the first line that is wrong.
func Parse(s string) ([]int, int, api.Errno) {
	l, at, e := text.Counted(s, reader(countWord), reader(energyWord))
	if no := check.First(e, checkEnergies(l)); no != api.OK {
		return nil, at, no
	}
	return l, 0, api.OK
}
