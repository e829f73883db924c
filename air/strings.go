package air

import (
	"strings"

	"flyover/api"
	"flyover/check"
	"flyover/list"
	"flyover/text"
)

// firstWords has the first word of each kind of line.
var firstWords = [1]string{"layer"}

// digits is how many an integer of a line has at most.
const digits = 9

// fixed is how many integers of a line come before those of the bands.
const fixed = 4

// line returns the line of a layer.
func (x Layer) line() string {
	l := []int{x.Thickness, x.Speed, x.Wind.X, x.Wind.Y}
	return text.Line(firstWords[0], append(l, text.Ends(x.Pass)...)...)
}

// Print returns the string of an air.
func Print(a []Layer) (string, api.Errno) {
	if e := CheckAir(a); e != api.OK {
		return "", e
	}
	return strings.Join(list.Mapped(a, Layer.line), ""), api.OK
}

// readLine returns the layer of a line, and whether the line has the form of one.
func readLine(line string) (Layer, bool) {
	l, ok := text.Integers(line, firstWords[0], text.Signed, digits)
	if !ok || len(l) < fixed+2 || len(l)%2 != 0 {
		return Layer{}, false
	}
	return Layer{Thickness: l[0], Speed: l[1], Wind: api.Point{X: l[2], Y: l[3]}, Pass: text.Intervals(l[fixed:])}, true
}

// Parse returns the air of a string, and the index of the first line that is wrong.
func Parse(s string) ([]Layer, int, api.Errno) {
	a, at, e := text.Read(s, readLine)
	if no := check.First(e, CheckAir(a)); no != api.OK {
		return nil, at, no
	}
	return a, 0, api.OK
}
