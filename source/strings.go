package source

import (
	"slices"
	"strings"

	"flyover/api"
	"flyover/text"
)

// firstWords has the first word of each line of a type; each further line has the last one, too.
var firstWords = [5]string{"type", "shares", "direct", "squares", "power"}

// digits is how many an integer of a line has at most.
const digits = 12

// form is that of a line: how many words and how many integers follow the first word, and what they set in a type.
type form struct {
	words int
	least int
	most  int
	set   func(t *Type, words []string, l []int)
}

// forms returns the forms of lines, in the order of their first words.
func forms() [len(firstWords)]form {
	// No line of a string that is not too long has as many integers.
	const many = api.MaxText
	return [len(firstWords)]form{
		{words: 1, least: 1, most: 1, set: func(t *Type, words []string, l []int) { t.Name, t.Side = words[0], l[0] }},
		{most: many, set: func(t *Type, _ []string, l []int) { t.Shares = l }},
		{least: 8, most: 8, set: func(t *Type, _ []string, l []int) { t.Direct = [8]int(l) }},
		{most: many, set: func(t *Type, _ []string, l []int) { t.Squares = l }},
		{least: 1, most: many, set: func(t *Type, _ []string, l []int) {
			t.Settings = append(t.Settings, Setting{Power: l[0], Energies: slices.Clone(l[1:])})
		}},
	}
}

// kind returns the index of the form, and of the first word, of the line with an index.
func kind(line int) int {
	return min(line, len(firstWords)-1)
}

// Print returns the string of a type.
func Print(t Type) (string, api.Errno) {
	if e := CheckType(t); e != api.OK {
		return "", e
	}
	rows := [][]int{{t.Side}, t.Shares, t.Direct[:], t.Squares}
	for _, s := range t.Settings {
		rows = append(rows, slices.Concat([]int{s.Power}, s.Energies))
	}
	var s strings.Builder
	for i, row := range rows {
		words := firstWords[kind(i)]
		if forms()[kind(i)].words > 0 {
			words += " " + t.Name
		}
		s.WriteString(text.Line(words, row...))
	}
	return s.String(), api.OK
}

// readLine sets what a line says in a type, and reports whether the line has its form.
func readLine(t *Type, line string, at int) bool {
	f := forms()[kind(at)]
	words, l, ok := text.Fields(line, firstWords[kind(at)], f.words, text.Integer, digits)
	if !ok || len(l) < f.least || len(l) > f.most {
		return false
	}
	f.set(t, words, l)
	return true
}

// Parse returns the type of a string, and the index of the first line that is wrong.
func Parse(s string) (Type, int, api.Errno) {
	if len(s) > api.MaxText {
		return Type{}, 0, api.ErrLong
	}
	lines := text.Lines(s)
	var t Type
	for i, line := range lines {
		if !readLine(&t, line, i) {
			return Type{}, i, api.ErrSyntax
		}
	}
	// A string without settings is one without a wrong line: that they are missing is the type's error.
	if len(lines) < len(firstWords)-1 {
		return Type{}, len(lines), api.ErrSyntax
	}
	if e := CheckType(t); e != api.OK {
		return Type{}, len(lines), e
	}
	return t, 0, api.OK
}
