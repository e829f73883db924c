package sound

import (
	"strconv"
	"strings"

	"flyover/api"
	"flyover/list"
	"flyover/text"
)

// The first words of the lines of a string of energies.
const (
	countWord  = "energies"
	energyWord = "energy"
)

// forms returns how many digits the integer of a line has at most, by the line's first word.
func forms() map[string]int {
	return map[string]int{countWord: 9, energyWord: 15}
}

// lineOf returns the line with a word and an integer.
func lineOf(word string, n int) string {
	return word + " " + strconv.Itoa(n) + "\n"
}

// Print returns the string of energies.
func Print(l []int) (string, api.Errno) {
	if e := checkEnergies(l); e != api.OK {
		return "", e
	}
	lines := list.Mapped(l, func(n int) string { return lineOf(energyWord, n) })
	s := lineOf(countWord, len(l)) + strings.Join(lines, "")
	if len(s) > api.MaxText {
		return "", api.ErrLong
	}
	return s, api.OK
}

// readLine returns the integer of a line, and whether the line is a word and an integer of its form.
func readLine(line, word string) (int, bool) {
	w, ended := text.WordsOf(line)
	if !ended || w.Left() != 2 {
		return 0, false
	}
	take := w.Next
	if take() != word {
		return 0, false
	}
	return text.Integer(take(), forms()[word])
}

// Parse returns the energies of a string, and the index of the first line that is wrong.
func Parse(s string) ([]int, int, api.Errno) {
	if len(s) > api.MaxText {
		return nil, 0, api.ErrLong
	}
	if s == "" {
		return nil, 0, api.ErrSyntax
	}
	lines := text.Lines(s)
	count := 0
	var l []int
	for i, line := range lines {
		word := energyWord
		if i == 0 {
			word = countWord
		}
		n, ok := readLine(line, word)
		if !ok {
			return nil, i, api.ErrSyntax
		}
		if i == 0 {
			count = n
		} else {
			l = append(l, n)
		}
	}
	if len(l) != count {
		return nil, len(lines), api.ErrShape
	}
	if e := checkEnergies(l); e != api.OK {
		return nil, len(lines), e
	}
	return l, 0, api.OK
}
