package office_test

import (
	"fmt"
	"math/rand"
	"slices"
	"strings"
	"testing"

	"flyover/api"
	"flyover/office"
	"flyover/sound"
)

// P10.5, P11: the number of a house is the same by flights and by types, and its chain alone proves it.
func TestNumbersAreTheSame(t *testing.T) {
	r := seeded()
	proven := 0
	for range 150 {
		l := someJournal(r, 80)
		for _, h := range replayed(t, l).Houses {
			energy, level, e := office.Number(l, h.Name)
			is(t, "error of Number", e, api.OK)
			chain, _ := office.Chain(l, h.Name)
			types, _ := office.ByTypes(l, h.Name)
			for what, items := range map[string][]office.Item{"flights": chain, "types": types} {
				sum := 0
				for _, x := range items {
					sum += x.Energy
				}
				is(t, fmt.Sprint("the sum by ", what, " at ", h, " of ", l), sum, energy)
				k, _ := sound.Level(sum)
				is(t, "the level by "+what, k, level)
			}
			n, e := office.CheckChain(l, h.Name, chain, level)
			is(t, "CheckChain", n, len(chain))
			is(t, "error of CheckChain", e, api.OK)
			_, e = office.CheckChain(l, h.Name, chain, level+one(r, -1, 1))
			is(t, "error of CheckChain of another level", e, api.ErrConflict)
			if len(chain) == 0 {
				continue
			}
			proven++
			at := r.Intn(len(chain))
			wrong := slices.Clone(chain)
			wrong[at].Energy += one(r, -1, 1)
			n, e = office.CheckChain(l, h.Name, wrong, level)
			is(t, "CheckChain of another item", n, at)
			is(t, "error of CheckChain of another item", e, api.ErrProof)
			n, e = office.CheckChain(l, h.Name, chain[:at], level)
			is(t, "CheckChain of a shorter one", n, at)
			is(t, "error of CheckChain of a shorter one", e, api.ErrProof)
		}
	}
	is(t, fmt.Sprint("many chains: ", proven), proven > 300, true)
}

// P10.5, P11: a published level does not change, whatever happens afterwards, and neither does a mark.
func TestPublishedLevelsStay(t *testing.T) {
	r := seeded()
	stayed := 0
	key := api.Key{1, 2, 3}
	for range 60 {
		l := someJournal(r, 80)
		levels, marks := map[string][]int{}, map[string]api.Key{}
		for cut := range len(l) + 1 {
			reg := replayed(t, l[:cut])
			is(t, "all maps are still there", len(reg.Maps) >= len(levels), true)
			for _, m := range reg.Maps {
				mark, _ := office.Mark(l[:cut], m.Name, key)
				if levels[m.Name] == nil {
					levels[m.Name], marks[m.Name] = m.Levels, mark
					continue
				}
				stayed++
				are(t, fmt.Sprint("levels of ", m.Name, " after ", l[:cut]), m.Levels, levels[m.Name])
				is(t, "the mark", mark, marks[m.Name])
				is(t, "CheckMark", office.CheckMark(l[:cut], m.Name, key, marks[m.Name]), api.OK)
				for i, level := range levels[m.Name] {
					got, e := office.Published(l[:cut], m.Name, reg.Houses[i].Name)
					is(t, "Published", got, level)
					is(t, "error of Published", e, api.OK)
				}
			}
		}
	}
	is(t, fmt.Sprint("many stayed: ", stayed), stayed > 1000, true)
}

// P10.5: a correction changes the numbers by the flights of its type alone.
func TestCorrectionsAreOfTheirTypes(t *testing.T) {
	r := seeded()
	changed := 0
	for range 400 {
		l := someJournal(r, 80)
		reg := replayed(t, l)
		for _, x := range reg.Types {
			factor := 1 + r.Intn(2000)
			correction := event(len(l)+1, fmt.Sprint("correct ", x.Name, " ", reg.Day, " ", factor))
			if office.Accepts(l, correction) != api.OK {
				continue
			}
			later := append(slices.Clone(l), correction)
			for _, h := range reg.Houses {
				before, _ := office.Chain(l, h.Name)
				after, _ := office.Chain(later, h.Name)
				for i, f := range reg.Flights {
					want := before[i]
					if f.Type == x.Name {
						want.Energy = x.Energy * factor * h.Share / 1000000
						changed++
					}
					is(t, fmt.Sprint("the item of ", f, " after ", correction), after[i], want)
				}
			}
			// But for the factor and the day nothing else has changed.
			want := reg
			want.Types = slices.Clone(want.Types)
			want.Types[slices.Index(want.Types, x)].Factor = factor
			isRegister(t, fmt.Sprint("the register after ", correction), replayed(t, later), want)
		}
	}
	is(t, fmt.Sprint("many are changed: ", changed), changed > 500, true)
}

// P10.5: each house has one offer at most, and the fund is what was given to it less all paid offers; a complaint is answered once at most, with a flight of its day.
func TestOffersAndComplaints(t *testing.T) {
	r := seeded()
	paid, answered, dismissed := 0, 0, 0
	for range 400 {
		l := someJournal(r, 80)
		reg := replayed(t, l)
		what := fmt.Sprint(" of ", l)
		given := 0
		answers := map[string]int{}
		for _, x := range counting(l) {
			switch x.Kind {
			case "fund":
				given += x.Values[1]
			case "answer", "dismiss":
				answers[x.Names[0]]++
			}
		}
		houses := map[string]bool{}
		for _, o := range reg.Offers {
			is(t, "a second offer to "+o.House+what, houses[o.House], false)
			houses[o.House] = true
			if o.Paid {
				given -= o.Amount
				paid++
			}
		}
		is(t, "the fund"+what, reg.Fund, given)
		is(t, "the fund is not below 0"+what, reg.Fund >= 0, true)
		days := map[string]int{}
		for _, f := range reg.Flights {
			days[f.Name] = f.Day
		}
		for _, c := range reg.Complaints {
			is(t, "answers of "+c.Name+what, answers[c.Name] <= 1 && (answers[c.Name] == 1) == (c.Answered >= 0), true)
			is(t, "no answer before the complaint"+what, c.Answered < 0 || c.Answered >= c.Day, true)
			if day, known := days[c.Flight]; c.Flight != "" {
				is(t, "a flight of the day"+what, known && day == c.Day, true)
				answered++
			} else if c.Answered >= 0 {
				dismissed++
			}
		}
	}
	is(t, fmt.Sprint("many of all: ", paid, answered, dismissed), paid > 50 && answered > 30 && dismissed > 50, true)
}

// P10.5: the story of a house is accepted, and the house has the same number, chain, offers and complaints by it.
func TestStoriesAreAccepted(t *testing.T) {
	r := seeded()
	offers, complaints := 0, 0
	for range 200 {
		l := someJournal(r, 80)
		reg := replayed(t, l)
		for i, h := range reg.Houses {
			story, e := office.Story(l, h.Name)
			is(t, "error of Story", e, api.OK)
			own := replayed(t, story)
			are(t, "houses of the story", own.Houses, []office.House{h})
			are(t, "types of the story", own.Types, reg.Types)
			are(t, "flights of the story", own.Flights, reg.Flights)
			of := func(o office.Offer) bool { return o.House != h.Name }
			are(t, "offers of the story", own.Offers, slices.DeleteFunc(slices.Clone(reg.Offers), of))
			by := func(c office.Complaint) bool { return c.House != h.Name }
			are(t, "complaints of the story", own.Complaints, slices.DeleteFunc(slices.Clone(reg.Complaints), by))
			var levels []int
			for _, m := range reg.Maps {
				if i < len(m.Levels) {
					levels = append(levels, m.Levels[i])
				}
			}
			var got []int
			for _, m := range own.Maps {
				got = append(got, m.Levels...)
			}
			are(t, fmt.Sprint("levels of the story of ", h, " of ", l), got, levels)
			energy, level, _ := office.Number(l, h.Name)
			again, k, _ := office.Number(story, h.Name)
			are(t, fmt.Sprint("number by the story of ", h, " of ", l), []int{again, k}, []int{energy, level})
			offers += len(own.Offers)
			complaints += len(own.Complaints)
		}
	}
	is(t, fmt.Sprint("many have offers and complaints: ", offers, complaints), offers > 100 && complaints > 100, true)
}

// P10.5, P11: undo takes back just the last event that counts, and replaying at any cut gives the same register.
func TestUndo(t *testing.T) {
	r := seeded()
	undone := 0
	for range 100 {
		l := someJournal(r, 60)
		for cut := range len(l) + 1 {
			before := l[:cut:cut]
			reg := replayed(t, before)
			isRegister(t, fmt.Sprint("Replay of those that count of ", before), replayed(t, renumbered(counting(before))), reg)
			x := someEvent(r, before)
			if x.Kind == "undo" || x.Kind == "publish" || x.Kind == "pay" || office.Accepts(before, x) != api.OK {
				continue
			}
			after := append(before, x)
			undo := event(len(after)+1, "undo")
			is(t, fmt.Sprint("Accepts of an undo after ", after), office.Accepts(after, undo), api.OK)
			isRegister(t, fmt.Sprint("Replay after an undo of ", x), replayed(t, append(after, undo)), reg)
			undone++
		}
	}
	is(t, fmt.Sprint("many are undone: ", undone), undone > 300, true)
}

// renumbered returns events with the Numbers from 1 on.
func renumbered(l []api.Event) []api.Event {
	l = slices.Clone(l)
	for i := range l {
		l[i].Number = i + 1
	}
	return l
}

// isPrefix tests that events were there: the first ones of others.
func isPrefix(t *testing.T, what string, got, all []api.Event) {
	t.Helper()
	if len(got) > len(all) {
		t.Errorf("%s: %d events of %d", what, len(got), len(all))
		return
	}
	areEvents(t, what, got, all[:len(got)])
}

// P10.5: a log that is cut off anywhere leads to the events of all whole records.
func TestLogsThatAreCutOff(t *testing.T) {
	r := seeded()
	for range 10 {
		l := someJournal(r, 40)
		log := recorded(t, l)
		for cut := range len(log) + 1 {
			got, n, e := office.Recover(log[:cut])
			whole := strings.Count(log[:cut], "\n")
			areEvents(t, fmt.Sprint("Recover of ", cut, " bytes"), got, l[:whole])
			is(t, "the length is that of whole records", n, strings.LastIndex(log[:cut], "\n")+1)
			is(t, "error of Recover", e == api.OK, n == cut)
			s, e := office.Open(log[:cut])
			is(t, "error of Open", e, api.OK)
			areEvents(t, "Events", s.Events(), l[:whole])
		}
	}
}

// P10.5: a log of which a byte is changed leads to events that were there.
func TestLogsWithChangedBytes(t *testing.T) {
	r := seeded()
	for range 10 {
		l := someJournal(r, 40)
		log := []byte(recorded(t, l))
		for at, b := range log {
			for _, other := range []byte{b ^ 1, b + 1, ' ', '\n', '#', '0', byte(r.Intn(256))} {
				if other == b {
					continue
				}
				log[at] = other
				got, n, e := office.Recover(string(log))
				isPrefix(t, fmt.Sprintf("Recover of %q", log), got, l)
				is(t, "the length is up to the change", n <= at, true)
				is(t, "an error of Recover", e != api.OK, true)
				s, _ := office.Open(string(log))
				isPrefix(t, "Events", s.Events(), l)
			}
			log[at] = b
		}
	}
}

// P10.5: events that are told to a session lead to the same register as those of its log.
func TestSessionsComeBack(t *testing.T) {
	r := seeded()
	for range 60 {
		l := someJournal(r, 80)
		s := retold(t, r, l)
		got, n, e := office.Recover(s.Log())
		areEvents(t, "Recover of a session's log", got, l)
		is(t, "its length", n, len(s.Log()))
		is(t, "error of Recover", e, api.OK)
		isRegister(t, "the register of a session", replayed(t, s.Events()), replayed(t, l))
	}
}

// retold returns a session to which events were told, with a new start somewhere.
func retold(t *testing.T, r *rand.Rand, l []api.Event) *office.Session {
	t.Helper()
	s := office.New()
	again := r.Intn(len(l) + 1)
	for i, x := range l {
		if i == again {
			s = opened(t, s.Events())
		}
		_, e := s.Do(line(x))
		is(t, "error of "+line(x), e, api.OK)
	}
	return s
}
