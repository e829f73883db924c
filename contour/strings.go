package contour

import (
	"slices"

	"flyover/api"
	"flyover/check"
	"flyover/list"
	"flyover/text"
)

// digits is how many an integer of a line has at most.
const digits = 14

// form is that of a line: its first word, and how many integers it can have.
type form struct {
	word string
	fits func(integers int) bool
}

// firstForm returns the form of the line 0.
func firstForm() form {
	return form{word: "grid", fits: func(integers int) bool { return integers == 2 }}
}

// rowForm returns the form of all other lines.
func rowForm() form {
	return form{word: "row", fits: func(integers int) bool { return integers > 0 }}
}

// line returns the line with integers.
func (f form) line(l []int) string {
	return text.Line(f.word, l...)
}

// read returns the integers of a line, and whether the line has the form.
func (f form) read(line string) ([]int, bool) {
	l, ok := text.Integers(line, f.word, text.Integer, digits)
	return l, ok && f.fits(len(l))
}

// Print returns the string of a grid.
func Print(g Grid) (string, api.Errno) {
	if e := CheckGrid(g); e != api.OK {
		return "", e
	}
	size := g.size()
	first := firstForm().line(size[:])
	return text.Joined(slices.Concat([]string{first}, list.Mapped(g.rows(), rowForm().line)))
}

// gridOf returns the grid with a size and rows, or the error of one that is none.
func gridOf(size []int, rows [][]int) (Grid, api.Errno) {
	g := Grid{Width: size[0], Height: size[1], Energies: slices.Concat(rows...)}
	misfits := func(row []int) bool { return len(row) != g.Width }
	e := check.First(
		check.That(len(rows) == g.Height && !slices.ContainsFunc(rows, misfits), api.ErrShape),
		CheckGrid(g),
	)
	if e != api.OK {
		return Grid{}, e
	}
	return g, api.OK
}

// Parse returns the grid of a string, and the index of the first line that is wrong.
func Parse(s string) (Grid, int, api.Errno) {
	size, rows, at, e := text.Headed(s, firstForm().read, rowForm().read)
	if e != api.OK {
		return Grid{}, at, e
	}
	g, e := gridOf(size, rows)
	if e != api.OK {
		return Grid{}, at, e
	}
	return g, 0, api.OK
}
