// Package text has what the packages of the layers share to read the lines of strings.
package text

import (
	"strings"

	"flyover/api"
)

// Words are those of a line that are not taken yet.
type Words struct {
	left []string
}

// WordsOf returns the words of a line, and whether the line has a line feed at its end.
func WordsOf(line string) (Words, bool) {
	s, ended := strings.CutSuffix(line, "\n")
	return Words{strings.Split(s, " ")}, ended
}

// Left returns how many words are left.
func (w *Words) Left() int {
	return len(w.left)
}

// Next takes a word: the empty one where none is left.
func (w *Words) Next() string {
	if len(w.left) == 0 {
		return ""
	}
	word := w.left[0]
	w.left = w.left[1:]
	return word
}

// Integer returns the integer that a word is, and whether it is one with at most so many digits (18 or fewer, so that it fits).
func Integer(word string, digits int) (int, bool) {
	if word == "" || len(word) > digits || word[0] == '0' && word != "0" {
		return 0, false
	}
	n := 0
	for _, r := range word {
		if r < '0' || r > '9' {
			return 0, false
		}
		n = 10*n + int(r-'0')
	}
	return n, true
}

// Signed returns the integer that a word is, and whether it is one, as of Integer, but with or without - in front; -0 is none.
func Signed(word string, digits int) (int, bool) {
	size, negative := strings.CutPrefix(word, "-")
	n, ok := Integer(size, digits)
	if !negative {
		return n, ok
	}
	return -n, ok && n != 0
}

// Numbers takes all words that are left, and returns the integers that read finds in them (as Integer or Signed do), and whether each one is one.
func (w *Words) Numbers(read func(word string, digits int) (int, bool), digits int) ([]int, bool) {
	l := make([]int, w.Left())
	for i := range l {
		n, ok := read(w.Next(), digits)
		if !ok {
			return nil, false
		}
		l[i] = n
	}
	return l, true
}

// Lines returns the lines of a string, each with its line feed if it has one; the empty string has none.
func Lines(s string) []string {
	lines := strings.SplitAfter(s, "\n")
	if last := len(lines) - 1; lines[last] == "" {
		return lines[:last]
	}
	return lines
}

// Read returns what read finds in each line of a string, and the number of lines. If the string is too long, or has a line that read does not understand, it returns the error and the index that belongs to it.
func Read[T any](s string, read func(line string) (T, bool)) ([]T, int, api.Errno) {
	if len(s) > api.MaxText {
		return nil, 0, api.ErrLong
	}
	var l []T
	for i, line := range Lines(s) {
		x, ok := read(line)
		if !ok {
			return nil, i, api.ErrSyntax
		}
		l = append(l, x)
	}
	return l, len(l), api.OK
}
