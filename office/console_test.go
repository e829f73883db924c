package office_test

import (
	"fmt"
	"slices"
	"strconv"
	"strings"
	"testing"

	"flyover/api"
	"flyover/office"
)

// opened returns a session with events, without an error.
func opened(t *testing.T, l []api.Event) *office.Session {
	t.Helper()
	s, e := office.Open(recorded(t, l))
	if e != api.OK {
		t.Fatalf("Open of %v: got %d", l, e)
	}
	return s
}

// P10.4: events that are told, and those that have errors, which change nothing.
func TestTelling(t *testing.T) {
	s := office.New()
	for i, line := range sample() {
		result, e := s.Do(line)
		is(t, "result of "+line, result, "done "+strconv.Itoa(i+1))
		is(t, "error of "+line, e, api.OK)
	}
	for line, want := range map[string]api.Errno{
		// The form comes before what the events say.
		"type": api.ErrSyntax, "type ": api.ErrSyntax, "type jet": api.ErrSyntax, "type prop 5": api.ErrSyntax, "type prop 5 5 5": api.ErrSyntax, "type prop 5 5 ": api.ErrSyntax, "type  prop 5 5": api.ErrSyntax, "type  5 5": api.ErrSyntax, "type prop five 5": api.ErrSyntax, "type prop 5 -5": api.ErrSyntax, "type prop 5 +5": api.ErrSyntax, "type prop 05 5": api.ErrSyntax, "type prop 5 5\n": api.ErrSyntax, "type prop 5 1000000000": api.ErrSyntax, "type a b 5 5": api.ErrSyntax, "type prop 5 5#": api.ErrSyntax, "9 type prop 5 5": api.ErrKind,
		"flight f 5 5": api.ErrSyntax, "flight f jet 5 5 5": api.ErrSyntax, "flight f jet": api.ErrSyntax, "flight  jet 5 5": api.ErrSyntax, "flight f  5 5": api.ErrSyntax, "fund": api.ErrSyntax, "fund 5": api.ErrSyntax, "fund a 5": api.ErrSyntax, "undo 5": api.ErrSyntax, "undo ": api.ErrSyntax, "publish n": api.ErrSyntax, "publish n 5 5": api.ErrSyntax, "pay 5": api.ErrSyntax, "answer x 5": api.ErrSyntax, "dismiss x f 5": api.ErrSyntax,
		// Names are any words: whether they are names is asked later.
		"type 7 5 5": api.ErrName, "type pr#p 5 5": api.ErrName, "type \n 5 5": api.ErrName, "type \xff 0 0": api.ErrName, "flight 7 8 0 0": api.ErrName, "flight k jet\n 5 5": api.ErrName, "pay 5 0": api.ErrName, "house " + strings.Repeat("a", 25) + " 3 5": api.ErrName, "house " + strings.Repeat("a", 4086) + " 3 5": api.ErrName, "answer x 5 0": api.ErrName,
		"type jet 3 5": api.ErrTwice, "type prop 2 5": api.ErrState, "house c 3 1001": api.ErrRange, "house c 3 999999999": api.ErrRange, "flight k prop 3 5": api.ErrUnknown, "match k 3 5": api.ErrUnknown, "correct jet 3 5": api.ErrShort, "publish m 3": api.ErrTwice, "offer o b 3 5": api.ErrRule, "fund 3 0": api.ErrRange, "pay o 3": api.ErrUnknown, "complain x c 3 5": api.ErrUnknown, "answer x f 3": api.ErrUnknown, "dismiss x 3": api.ErrUnknown,
		// Words that are no kinds, and no questions.
		" ": api.ErrKind, " money": api.ErrKind, "\n": api.ErrKind, "Money": api.ErrKind, "money\n": api.ErrKind, "undo\n": api.ErrKind, "maps m": api.ErrKind, "types": api.ErrKind, "mone": api.ErrKind, "none": api.ErrKind, "\tmoney": api.ErrKind, "money,": api.ErrKind, "done 5": api.ErrKind, "\x00": api.ErrKind, strings.Repeat("x", 4096): api.ErrKind, strings.Repeat(" ", 4096): api.ErrKind,
		"": api.ErrSyntax, strings.Repeat("x", 4097): api.ErrLong, strings.Repeat(" ", 4097): api.ErrLong, "money" + strings.Repeat(" ", 4092): api.ErrLong, "money" + strings.Repeat(" ", 4091): api.ErrSyntax, "fund 3 " + strings.Repeat("1", 4090): api.ErrLong, "fund 3 " + strings.Repeat("1", 4089): api.ErrSyntax, "house " + strings.Repeat("a", 4087) + " 3 5": api.ErrLong,
	} {
		result, e := s.Do(line)
		is(t, fmt.Sprintf("result of %.60q", line), result, "")
		is(t, fmt.Sprintf("error of %.60q", line), e, want)
	}
	areEvents(t, "Events", s.Events(), told())
	is(t, "Log", s.Log(), recorded(t, told()))
	for i, line := range []string{"fund 3 1", "undo", "house h 999999999 1000", "undo", "fund 3 100000000"} {
		result, e := s.Do(line)
		is(t, "result of "+line, result, "done "+strconv.Itoa(i+9))
		is(t, "error of "+line, e, api.OK)
	}
	areEvents(t, "Events after more", s.Events(), told("fund 3 1", "undo", "house h 999999999 1000", "undo", "fund 3 100000000"))
	is(t, "an undo after an undo", len(office.New().Events()), 0)
}

// P10.4: what is asked, and its errors.
func TestAsking(t *testing.T) {
	full := matched("correct jet 4 500", "house c 4 900", "offer o a 4 500", "complain x b 5 15", "complain y a 5 16", "publish n 6", "pay o 6", "type prop 6 5")
	for i, x := range []struct {
		l      []api.Event
		line   string
		result string
		e      api.Errno
	}{
		{told(), "number a", "150000000 71", api.OK}, {told(), "number b", "300000 44", api.OK}, {told()[:3], "number a", "0 -1", api.OK}, {full, "number a", "75000000 68", api.OK}, {full, "number c", "135000000 71", api.OK}, {told(), "number c", "", api.ErrUnknown}, {told(), "number jet", "", api.ErrUnknown}, {told(), "number a\n", "", api.ErrUnknown}, {told(), "number \xff", "", api.ErrUnknown}, {told(), "number", "", api.ErrSyntax}, {told(), "number ", "", api.ErrSyntax}, {told(), "number a b", "", api.ErrSyntax}, {told(), "number  a", "", api.ErrSyntax}, {told(), "number a ", "", api.ErrSyntax}, {told(), "number 5", "", api.ErrUnknown},
		{told(), "chain a", "f 50000000 g 50000000 h 50000000", api.OK}, {told()[:3], "chain a", "none", api.OK}, {full, "chain b", "f 50000 g 50000 h 50000", api.OK}, {events("type t 0 5", "house a 0 0", "flight f t 0 0"), "chain a", "f 0", api.OK}, {told(), "chain c", "", api.ErrUnknown}, {told(), "chain", "", api.ErrSyntax}, {told(), "chain a a", "", api.ErrSyntax}, {told(), "chain  ", "", api.ErrSyntax},
		{told(), "map m", "71 44", api.OK}, {full, "map m", "71 44", api.OK}, {full, "map n", "68 41 71", api.OK}, {events("house a 0 5", "publish m 0"), "map m", "-1", api.OK}, {told(), "map n", "", api.ErrUnknown}, {told(), "map a", "", api.ErrUnknown}, {told(), "map", "", api.ErrSyntax}, {told(), "map m m", "", api.ErrSyntax}, {told(), "map m 5", "", api.ErrSyntax},
		{told(), "eligible", "a", api.OK}, {nil, "eligible", "none", api.OK}, {full, "eligible", "c", api.OK}, {told("house c 4 900", "publish n 4"), "eligible", "a c", api.OK}, {told(), "eligible a", "", api.ErrSyntax}, {told(), "eligible ", "", api.ErrSyntax},
		{full, "late 35", "none", api.OK}, {full, "late 36", "x y", api.OK}, {full, "late 999999999", "x y", api.OK}, {full, "late 0", "none", api.OK}, {nil, "late 5", "none", api.OK}, {full, "late", "", api.ErrSyntax}, {full, "late ", "", api.ErrSyntax}, {full, "late x", "", api.ErrSyntax}, {full, "late -1", "", api.ErrSyntax}, {full, "late 036", "", api.ErrSyntax}, {full, "late 1000000000", "", api.ErrSyntax}, {full, "late 36 36", "", api.ErrSyntax}, {full, "late 36 ", "", api.ErrSyntax}, {full, "late 36\n", "", api.ErrSyntax}, {full, "late  36", "", api.ErrSyntax},
		{told(), "money", "900", api.OK}, {nil, "money", "0", api.OK}, {full, "money", "400", api.OK}, {told(), "money 1", "", api.ErrSyntax}, {told(), "money ", "", api.ErrSyntax}, {told(), "money a", "", api.ErrSyntax},
		{told(), "matched jet", "0 0", api.OK}, {full, "matched jet", "3 150000000", api.OK}, {full, "matched prop", "0 0", api.OK}, {told(), "matched prop", "", api.ErrUnknown}, {told(), "matched a", "", api.ErrUnknown}, {told(), "matched", "", api.ErrSyntax}, {told(), "matched jet 5", "", api.ErrSyntax},
	} {
		s := opened(t, x.l)
		result, e := s.Do(x.line)
		is(t, fmt.Sprintf("result of %d %q", i, x.line), result, x.result)
		is(t, fmt.Sprintf("error of %d %q", i, x.line), e, x.e)
		areEvents(t, "Events after "+x.line, s.Events(), x.l)
	}
}

// P10.4: as many events as there may be.
func TestFullSession(t *testing.T) {
	s := opened(t, events(each(999, "fund # 1")...))
	for _, x := range []struct {
		line   string
		result string
		e      api.Errno
	}{
		{"undo", "done 1000", api.OK}, {"undo", "", api.ErrMany}, {"fund 0 1", "", api.ErrMany}, {"type 7 0 0", "", api.ErrMany}, {"undo 5", "", api.ErrSyntax}, {"type 7 0", "", api.ErrSyntax}, {"delay", "", api.ErrKind}, {"money", "998", api.OK},
	} {
		result, e := s.Do(x.line)
		is(t, "result of "+x.line, result, x.result)
		is(t, "error of "+x.line, e, x.e)
	}
	is(t, "events of a full session", len(s.Events()), 1000)
	again, e := office.Open(s.Log())
	is(t, "error of Open of a full log", e, api.OK)
	is(t, "the same log", again.Log(), s.Log())
}

// P10.4: sessions that are opened with logs, also with those that are cut off.
func TestOpen(t *testing.T) {
	log := recorded(t, told())
	poor := recorded(t, told("fund 3 0"))
	for i, x := range []struct {
		log string
		n   int
		e   api.Errno
	}{
		{"", 0, api.OK}, {log, 8, api.OK}, {log[:len(log)-1], 7, api.OK}, {log + "9 undo#", 8, api.OK}, {"x", 0, api.OK}, {log + checked("9 undo"), 9, api.OK},
		{"x\n", 0, api.ErrSyntax}, {log + "\n", 0, api.ErrSyntax}, {strings.Replace(log, "jet", "jat", 1), 0, api.ErrCheck}, {log + log, 0, api.ErrOrder}, {strings.Repeat("x", 1000001), 0, api.ErrLong}, {strings.Repeat("x", 1000000), 0, api.OK},
		// The events of a log are replayed, also those before a record that is cut off.
		{poor, 0, api.ErrRange}, {poor + "10", 0, api.ErrRange}, {poor[:len(poor)-1], 8, api.OK}, {checked("1 undo"), 0, api.ErrEmpty}, {checked("1 publish m 0"), 0, api.ErrEmpty}, {checked("1 pay o 0"), 0, api.ErrUnknown}, {poor + "\n", 0, api.ErrSyntax},
	} {
		s, e := office.Open(x.log)
		is(t, fmt.Sprint("error of Open ", i), e, x.e)
		is(t, fmt.Sprint("a session of Open ", i), s != nil, x.e == api.OK)
		is(t, fmt.Sprint("events of Open ", i), len(s.Events()), x.n)
		is(t, fmt.Sprint("log of Open ", i), strings.HasPrefix(x.log, s.Log()), true)
	}
}

// P10.4: sessions that are nil, or the zero value, and two at once.
func TestSessions(t *testing.T) {
	var none *office.Session
	for _, line := range []string{"money", "", "fund 0 1", "delay", strings.Repeat("x", 5000)} {
		result, e := none.Do(line)
		is(t, "result of nothing", result, "")
		is(t, "error of nothing", e, api.ErrState)
	}
	is(t, "events of nothing", len(none.Events()), 0)
	is(t, "log of nothing", none.Log(), "")
	var zero office.Session
	a, b := office.New(), office.New()
	for _, s := range []*office.Session{&zero, a, b} {
		is(t, "log of a new session", s.Log(), "")
		is(t, "events of a new session", len(s.Events()), 0)
		result, e := s.Do("fund 1 7")
		is(t, "the first event", result, "done 1")
		is(t, "error of the first event", e, api.OK)
	}
	a.Do("fund 1 8")
	for s, want := range map[*office.Session]string{a: "15", b: "7", &zero: "7"} {
		money, _ := s.Do("money")
		is(t, "money", money, want)
	}
}

// P10.4: lines of events, and questions, by the definition.
func TestConsoleByDefinition(t *testing.T) {
	r := seeded()
	kinds := map[api.Errno]int{}
	for range 60 {
		s := office.New()
		var l []api.Event
		for range 80 {
			x := someEvent(r, l)
			x.Number = len(l) + 1
			result, e := s.Do(line(x))
			want := office.Accepts(l, x)
			kinds[want]++
			what := fmt.Sprint(" of ", line(x), " after ", l)
			is(t, "error"+what, e, want)
			if want == api.OK {
				l = append(l, x)
				is(t, "result"+what, result, "done "+strconv.Itoa(len(l)))
			} else {
				is(t, "result"+what, result, "")
			}
		}
		areEvents(t, "Events", s.Events(), l)
		log := ""
		for _, x := range bodies(l) {
			log += checked(x)
		}
		is(t, "Log", s.Log(), log)
		reg := folded(counting(l))
		for _, h := range reg.Houses {
			energy, level := numberOf(reg, h.Name)
			answered(t, s, "number "+h.Name, strconv.Itoa(energy), strconv.Itoa(level))
			chain, _ := office.Chain(l, h.Name)
			var words []string
			for _, x := range chain {
				words = append(words, x.Name, strconv.Itoa(x.Energy))
			}
			answered(t, s, "chain "+h.Name, words...)
		}
		for _, m := range reg.Maps {
			answered(t, s, "map "+m.Name, strings.Fields(strings.Trim(fmt.Sprint(m.Levels), "[]"))...)
		}
		for _, x := range reg.Types {
			n, sum, _ := office.Matched(l, x.Name)
			answered(t, s, "matched "+x.Name, strconv.Itoa(n), strconv.Itoa(sum))
		}
		answered(t, s, "money", strconv.Itoa(reg.Fund))
		eligible, _ := office.Eligible(l)
		answered(t, s, "eligible", eligible...)
		day := reg.Day + 20
		late, _ := office.Late(l, day)
		answered(t, s, "late "+strconv.Itoa(day), late...)
		areEvents(t, "Events after questions", s.Events(), l)
	}
	is(t, fmt.Sprint("many are accepted, and many are not: ", kinds), kinds[api.OK] > 500 && kinds[api.ErrState] > 100 && kinds[api.ErrRule] > 50, true)
}

// answered tests the words of an answer.
func answered(t *testing.T, s *office.Session, line string, words ...string) {
	t.Helper()
	if len(words) == 0 {
		words = []string{"none"}
	}
	result, e := s.Do(line)
	are(t, "words of "+line, strings.Split(result, " "), slices.Clone(words))
	is(t, "error of "+line, e, api.OK)
}
