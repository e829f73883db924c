package office

import (
	"strconv"
	"strings"

	"flyover/api"
	"flyover/check"
	"flyover/list"
	"flyover/text"
)

// nothing is the result without words.
const nothing = "none"

// question is the form of a line that asks for something, and what answers it.
type question struct {
	form
	answer func(l []api.Event, words []string, integers []int) ([]string, api.Errno)
}

// numerals returns integers as words.
func numerals(l ...int) []string {
	return list.Mapped(l, strconv.Itoa)
}

// questions returns all of them by their first words.
func questions() map[string]question {
	return map[string]question{
		"number": {form{words: 1}, func(l []api.Event, words []string, _ []int) ([]string, api.Errno) {
			energy, level, e := Number(l, words[0])
			return numerals(energy, level), e
		}},
		"chain": {form{words: 1}, func(l []api.Event, words []string, _ []int) ([]string, api.Errno) {
			chain, e := Chain(l, words[0])
			return list.Mapped(chain, func(x Item) string { return x.Name + " " + strconv.Itoa(x.Energy) }), e
		}},
		"map": {form{words: 1}, func(l []api.Event, words []string, _ []int) ([]string, api.Errno) {
			r, i, e := find(l, Register.mapAt, words[0])
			if e != api.OK {
				return nil, e
			}
			return numerals(r.Maps[i].Levels...), api.OK
		}},
		"eligible": {form{}, func(l []api.Event, _ []string, _ []int) ([]string, api.Errno) {
			return Eligible(l)
		}},
		"late": {form{integers: 1}, func(l []api.Event, _ []string, integers []int) ([]string, api.Errno) {
			return Late(l, integers[0])
		}},
		"money": {form{}, func(l []api.Event, _ []string, _ []int) ([]string, api.Errno) {
			r, _, e := Replay(l)
			return numerals(r.Fund), e
		}},
		"matched": {form{words: 1}, func(l []api.Event, words []string, _ []int) ([]string, api.Errno) {
			n, sum, e := Matched(l, words[0])
			return numerals(n, sum), e
		}},
	}
}

// New returns a session without events.
func New() *Session {
	return &Session{}
}

// Open returns a session with the events of a log.
func Open(log string) (*Session, api.Errno) {
	l, _, e := Recover(log)
	if e != api.OK && e != api.ErrTorn {
		return nil, e
	}
	if _, _, e := Replay(l); e != api.OK {
		return nil, e
	}
	return &Session{l}, api.OK
}

// tell adds the event of a kind with the words that are left.
func (s *Session) tell(all kinds, kind string, left text.Words) (string, api.Errno) {
	e, ok := all.read(kind, left)
	if no := check.First(check.That(ok, api.ErrSyntax), room(s.events, api.MaxEvents)); no != api.OK {
		return "", no
	}
	e.Number = len(s.events) + 1
	if no := Accepts(s.events, e); no != api.OK {
		return "", no
	}
	s.events = append(s.events, e)
	return "done " + strconv.Itoa(e.Number), api.OK
}

// ask answers a question with the words that are left.
func (s *Session) ask(q question, left text.Words) (string, api.Errno) {
	words, integers, ok := q.read(left)
	if !ok {
		return "", api.ErrSyntax
	}
	result, e := q.answer(s.events, words, integers)
	switch {
	case e != api.OK:
		return "", e
	case len(result) == 0:
		return nothing, api.OK
	}
	return strings.Join(result, " "), api.OK
}

// Do carries out a line of the console.
func (s *Session) Do(line string) (string, api.Errno) {
	if s == nil {
		return "", api.ErrState
	}
	if e := check.First(check.That(len(line) <= api.MaxText, api.ErrLong), check.That(line != "", api.ErrSyntax)); e != api.OK {
		return "", e
	}
	words := text.WordsIn(line)
	first := words.Next()
	all := allKinds()
	if _, ok := all[first]; ok {
		return s.tell(all, first, words)
	}
	if q, ok := questions()[first]; ok {
		return s.ask(q, words)
	}
	return "", api.ErrKind
}

// Events returns the events of a session.
func (s *Session) Events() []api.Event {
	if s == nil {
		return nil
	}
	return list.Mapped(s.events, copied)
}

// Log returns the log of a session.
func (s *Session) Log() string {
	return strings.Join(list.Mapped(s.Events(), record), "")
}
