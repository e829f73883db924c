package town

import (
	"strings"

	"flyover/api"
	"flyover/check"
	"flyover/list"
	"flyover/text"
)

// firstWord is that of each line.
const firstWord = "wall"

// digits is how many an integer of a line has at most.
const digits = 9

// numbers is how many integers a line has.
const numbers = 6

// line returns the line of a wall.
func (w Wall) line() string {
	return text.Line(firstWord+" "+w.Name, w.A.X, w.A.Y, w.B.X, w.B.Y, w.Height, w.Echo)
}

// Print returns the string of walls.
func Print(l []Wall) (string, api.Errno) {
	if e := CheckWalls(l); e != api.OK {
		return "", e
	}
	return strings.Join(list.Mapped(l, Wall.line), ""), api.OK
}

// readLine returns the wall of a line, and whether the line has the form of one.
func readLine(line string) (Wall, bool) {
	words, l, ok := text.Fields(line, firstWord, 1, text.Signed, digits)
	if !ok || len(l) != numbers {
		return Wall{}, false
	}
	return Wall{Name: words[0], A: api.Point{X: l[0], Y: l[1]}, B: api.Point{X: l[2], Y: l[3]}, Height: l[4], Echo: l[5]}, true
}

// Parse returns the walls of a string, and the index of the first line that is wrong.
func Parse(s string) ([]Wall, int, api.Errno) {
	l, at, e := text.Read(s, readLine)
	if no := check.First(e, CheckWalls(l)); no != api.OK {
		return nil, at, no
	}
	return l, 0, api.OK
}
