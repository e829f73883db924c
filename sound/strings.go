package sound

import (
	"strconv"
	"strings"

	"flyover/api"
)

// The first words of the lines of a string of energies.
const (
	countWord  = "energies"
	energyWord = "energy"
)

// forms returns how many digits the integer of a line has at most, by the line's first word.
func forms() map[string]int {
	return map[string]int{countWord: 9, energyWord: 15}
}

// words are those of a line that are not taken yet.
type words struct {
	left []string
}

// next takes a word: the empty one where none is left.
func (w *words) next() string {
	if len(w.left) == 0 {
		return ""
	}
	word := w.left[0]
	w.left = w.left[1:]
	return word
}

// lineOf returns the line with a word and an integer.
func lineOf(word string, n int) string {
	return word + " " + strconv.Itoa(n) + "\n"
}

// Print returns the string of energies.
func Print(l []int) (string, api.Errno) {
	if e := checkEnergies(l); e != api.OK {
		return "", e
	}
	lines := mapped(l, func(n int) string { return lineOf(energyWord, n) })
	s := lineOf(countWord, len(l)) + strings.Join(lines, "")
	if len(s) > api.MaxText {
		return "", api.ErrLong
	}
	return s, api.OK
}

// integer returns the integer that a word is, and whether it is one with at most so many digits.
func integer(word string, digits int) (int, bool) {
	if word == "" || len(word) > digits || word[0] == '0' && word != "0" {
		return 0, false
	}
	n := 0
	for _, r := range word {
		if r < '0' || r > '9' {
			return 0, false
		}
		n = 10*n + int(r-'0')
	}
	return n, true
}

// readLine returns the integer of a line, and whether the line is a word and an integer of its form.
func readLine(line, word string) (int, bool) {
	text, ended := strings.CutSuffix(line, "\n")
	w := words{strings.Split(text, " ")}
	if !ended || len(w.left) != 2 {
		return 0, false
	}
	take := w.next
	if take() != word {
		return 0, false
	}
	return integer(take(), forms()[word])
}

// linesOf returns the lines of a string, with their line feeds. The empty string has one, which has none.
func linesOf(s string) []string {
	lines := strings.SplitAfter(s, "\n")
	if last := len(lines) - 1; last > 0 && lines[last] == "" {
		return lines[:last]
	}
	return lines
}

// Parse returns the energies of a string, and the index of the first line that is wrong.
func Parse(s string) ([]int, int, api.Errno) {
	if len(s) > api.MaxText {
		return nil, 0, api.ErrLong
	}
	lines := linesOf(s)
	count := 0
	var l []int
	for i, line := range lines {
		word := energyWord
		if i == 0 {
			word = countWord
		}
		n, ok := readLine(line, word)
		if !ok {
			return nil, i, api.ErrSyntax
		}
		if i == 0 {
			count = n
		} else {
			l = append(l, n)
		}
	}
	if len(l) != count {
		return nil, len(lines), api.ErrShape
	}
	if e := checkEnergies(l); e != api.OK {
		return nil, len(lines), e
	}
	return l, 0, api.OK
}
