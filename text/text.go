// Package text has what the packages of the layers share to read and to write the lines of strings.
package text

import (
	"slices"
	"strconv"
	"strings"

	"flyover/api"
	"flyover/list"
)

// Line returns the line with words and integers.
func Line(words string, l ...int) string {
	return strings.Join(slices.Concat([]string{words}, list.Mapped(l, strconv.Itoa)), " ") + "\n"
}

// Words are those of a line that are not taken yet.
type Words struct {
	left []string
}

// WordsIn returns the words of a string, in which a line feed is a byte like others.
func WordsIn(s string) Words {
	return Words{strings.Split(s, " ")}
}

// WordsOf returns the words of a line, and whether the line has a line feed at its end.
func WordsOf(line string) (Words, bool) {
	s, ended := strings.CutSuffix(line, "\n")
	return WordsIn(s), ended
}

// Left returns how many words are left.
func (w *Words) Left() int {
	return len(w.left)
}

// Next takes a word: the empty one where none is left.
func (w *Words) Next() string {
	if len(w.left) == 0 {
		return ""
	}
	word := w.left[0]
	w.left = w.left[1:]
	return word
}

// Integer returns the integer that a word is, and whether it is one with at most so many digits (18 or fewer, so that it fits).
func Integer(word string, digits int) (int, bool) {
	if word == "" || len(word) > digits || word[0] == '0' && word != "0" {
		return 0, false
	}
	n := 0
	for _, r := range word {
		if r < '0' || r > '9' {
			return 0, false
		}
		n = 10*n + int(r-'0')
	}
	return n, true
}

// Signed returns the integer that a word is, and whether it is one, as of Integer, but with or without - in front; -0 is none.
func Signed(word string, digits int) (int, bool) {
	size, negative := strings.CutPrefix(word, "-")
	n, ok := Integer(size, digits)
	if !negative {
		return n, ok
	}
	return -n, ok && n != 0
}

// Numbers takes all words that are left, and returns the integers that read finds in them (as Integer or Signed do), and whether each one is one.
func (w *Words) Numbers(read func(word string, digits int) (int, bool), digits int) ([]int, bool) {
	l := make([]int, w.Left())
	for i := range l {
		n, ok := read(w.Next(), digits)
		if !ok {
			return nil, false
		}
		l[i] = n
	}
	return l, true
}

// Fields takes all words that are left, and returns so many words and the integers that read finds in the others (as Integer or Signed do), and whether each word has at least one byte and each of the others is an integer.
func (w *Words) Fields(words int, read func(word string, digits int) (int, bool), digits int) ([]string, []int, bool) {
	take := w.Next
	l := make([]string, words)
	for i := range l {
		l[i] = take()
	}
	n, ok := w.Numbers(read, digits)
	if !ok || slices.Contains(l, "") {
		return nil, nil, false
	}
	return l, n, true
}

// Fields returns the words and the integers of a line, and whether the line is its first word, so many words of at least one byte, and any number of integers that read finds (as Integer or Signed do).
func Fields(line, first string, words int, read func(word string, digits int) (int, bool), digits int) ([]string, []int, bool) {
	w, ended := WordsOf(line)
	if !ended || w.Next() != first {
		return nil, nil, false
	}
	return w.Fields(words, read, digits)
}

// Integers returns those of a line, and whether the line is a word and any number of integers that read finds (as Integer or Signed do).
func Integers(line, word string, read func(word string, digits int) (int, bool), digits int) ([]int, bool) {
	_, l, ok := Fields(line, word, 0, read, digits)
	return l, ok
}

// Ends returns Low and High of each interval, one after the other, as lines have them.
func Ends(l []api.Interval) []int {
	ends := make([]int, 0, 2*len(l))
	for _, x := range l {
		ends = append(ends, x.Low, x.High)
	}
	return ends
}

// Intervals returns the intervals with these ends, of which there is an even number.
func Intervals(ends []int) []api.Interval {
	l := make([]api.Interval, 0, len(ends)/2)
	for pair := range slices.Chunk(ends, 2) {
		l = append(l, api.Interval{Low: pair[0], High: pair[1]})
	}
	return l
}

// Number returns the integer of a line, and whether the line is a word and an integer with at most so many digits.
func Number(line, word string, digits int) (int, bool) {
	l, ok := Integers(line, word, Integer, digits)
	if !ok || len(l) != 1 {
		return 0, false
	}
	return l[0], true
}

// Lines returns the lines of a string, each with its line feed if it has one; the empty string has none.
func Lines(s string) []string {
	lines := strings.SplitAfter(s, "\n")
	if last := len(lines) - 1; lines[last] == "" {
		return lines[:last]
	}
	return lines
}

// Read returns what read finds in each line of a string, and the number of lines. If the string is too long, or has a line that read does not understand, it returns the error and the index that belongs to it.
func Read[T any](s string, read func(line string) (T, bool)) ([]T, int, api.Errno) {
	if len(s) > api.MaxText {
		return nil, 0, api.ErrLong
	}
	var l []T
	for i, line := range Lines(s) {
		x, ok := read(line)
		if !ok {
			return nil, i, api.ErrSyntax
		}
		l = append(l, x)
	}
	return l, len(l), api.OK
}

// Headed returns what first finds in the line 0 of a string, and what read finds in each further one, and the number of lines. If the string is too long, or has a line that is not understood, or none at all, it returns the error and the index that belongs to it.
func Headed[H, T any](s string, first func(line string) (H, bool), read func(line string) (T, bool)) (H, []T, int, api.Errno) {
	var none H
	if len(s) > api.MaxText {
		return none, nil, 0, api.ErrLong
	}
	end := len(s)
	if i := strings.IndexByte(s, '\n'); i >= 0 {
		end = i + 1
	}
	head, ok := first(s[:end])
	if !ok {
		return none, nil, 0, api.ErrSyntax
	}
	l, at, e := Read(s[end:], read)
	if e != api.OK {
		return none, nil, at + 1, e
	}
	return head, l, at + 1, api.OK
}

// Counted returns what read finds in each line of a string but the line 0, in which count finds how many they are; and the number of lines. With an error it returns the index that belongs to it.
func Counted[T any](s string, count func(line string) (int, bool), read func(line string) (T, bool)) ([]T, int, api.Errno) {
	n, l, at, e := Headed(s, count, read)
	if e != api.OK {
		return nil, at, e
	}
	if n != len(l) {
		return nil, at, api.ErrShape
	}
	return l, at, api.OK
}

// Joined returns the string of lines, or ErrLong.
func Joined(lines []string) (string, api.Errno) {
	s := strings.Join(lines, "")
	if len(s) > api.MaxText {
		return "", api.ErrLong
	}
	return s, api.OK
}
