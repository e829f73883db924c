package night

import (
	"strings"

	"flyover/api"
	"flyover/check"
	"flyover/list"
	"flyover/text"
)

// firstWord is that of each line.
const firstWord = "move"

// names is how many words of a line come after the first one.
const names = 3

// numbers is how many integers a line has.
const numbers = 2

// digits is how many an integer of a line has at most.
const digits = 9

// line returns the line of a movement.
func (m Move) line() string {
	words := []string{firstWord, m.Flight, m.Airline, m.Type}
	return text.Line(strings.Join(words, " "), m.Day, m.Minute)
}

// Print returns the string of movements.
func Print(r Rules, l []Move) (string, api.Errno) {
	if e := CheckMoves(r, l); e != api.OK {
		return "", e
	}
	return strings.Join(list.Mapped(l, Move.line), ""), api.OK
}

// readLine returns the movement of a line, and whether the line has the form of one.
func readLine(line string) (Move, bool) {
	words, l, ok := text.Fields(line, firstWord, names, text.Integer, digits)
	if !ok || len(l) != numbers {
		return Move{}, false
	}
	return Move{Flight: words[0], Airline: words[1], Type: words[2], Day: l[0], Minute: l[1]}, true
}

// Parse returns the movements of a string, and the index of the first line that is wrong.
func Parse(r Rules, s string) ([]Move, int, api.Errno) {
	if e := CheckRules(r); e != api.OK {
		return nil, 0, e
	}
	l, at, e := text.Read(s, readLine)
	if no := check.First(e, CheckMoves(r, l)); no != api.OK {
		return nil, at, no
	}
	return l, 0, api.OK
}
