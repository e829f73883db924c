package home

import (
	"slices"
	"strings"

	"flyover/api"
	"flyover/check"
	"flyover/list"
	"flyover/text"
)

// The first words of the lines of a home.
const (
	homeWord   = "home"
	windowWord = "window"
)

// digits is how many an integer of a line has at most.
const digits = 9

// Where the integers of a window's line begin that are its outdoor energies, and what passes; and how many there are.
const (
	outsideAt = 1
	passAt    = outsideAt + api.MaxBands
	numbers   = passAt + 2*api.MaxBands
)

// line returns the line of a window.
func (w Window) line() string {
	return text.Line(windowWord, slices.Concat([]int{w.Area}, w.Outside[:], text.Ends(w.Pass[:]))...)
}

// Print returns the string of a home.
func Print(h Home) (string, api.Errno) {
	if e := CheckHome(h); e != api.OK {
		return "", e
	}
	first := text.Line(homeWord+" "+h.Name, h.People)
	return first + strings.Join(list.Mapped(h.Windows, Window.line), ""), api.OK
}

// readHome returns the home of the line 0, without windows, and whether the line has its form.
func readHome(line string) (Home, bool) {
	words, l, ok := text.Fields(line, homeWord, 1, text.Integer, digits)
	if !ok || len(l) != 1 {
		return Home{}, false
	}
	return Home{Name: words[0], People: l[0]}, true
}

// readWindow returns the window of a line, and whether the line has the form of one.
func readWindow(line string) (Window, bool) {
	l, ok := text.Integers(line, windowWord, text.Integer, digits)
	if !ok || len(l) != numbers {
		return Window{}, false
	}
	pass := text.Intervals(l[passAt:])
	return Window{Area: l[0], Outside: api.Spectrum(l[outsideAt:passAt]), Pass: [api.MaxBands]api.Interval(pass)}, true
}

// Parse returns the home of a string, and the index of the first line that is wrong.
func Parse(s string) (Home, int, api.Errno) {
	h, windows, at, e := text.Headed(s, readHome, readWindow)
	h.Windows = windows
	if no := check.First(e, CheckHome(h)); no != api.OK {
		return Home{}, at, no
	}
	return h, 0, api.OK
}
