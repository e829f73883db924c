package air_test

import (
	"math"
	"slices"
	"strings"
	"testing"

	"flyover/air"
	"flyover/api"
)

var (
	anyInts    = []int{math.MinInt, -20001, -101, -1, 0, 1, 2, 8, 100, 1000, 1001, 2000, 10001, api.MaxEnergy, 1 << 62, math.MaxInt}
	anyStrings = []string{"", "\n", " ", "\x00", "\xff\n", "layer", "layer -", twoString + "layer", strings.Repeat(" ", 4096), strings.Repeat("layer 1\n", 1000), strings.Repeat("9", 1<<20)}
)

// tryInts calls all functions with arguments of which some have two integers.
func tryInts(a, b int) {
	u := changed(func(l []air.Layer) { l[1].Thickness, l[1].Wind = a, api.Point{X: b, Y: a} })
	v := changed(func(l []air.Layer) { l[0].Pass, l[1].Pass = list(a, b), list(b, a, a, b) })
	w := changed(func(l []air.Layer) { l[0].Speed, l[1].Speed, l[0].Pass = a, b, nil })
	along, z := api.Point{X: a, Y: b}, complex(float64(a), float64(b))
	paths := []air.Path{step(), path(at(a, b, a), at(b, a, b)), path(at(0, 0, a), at(b, 0, 0)), {}}
	air.Factor(z)
	air.Share(z)
	for _, p := range paths {
		air.CheckPath(p)
		air.Length(p)
	}
	for _, x := range [][]air.Layer{two(), u, v, w, nil, make([]air.Layer, 3), slices.Repeat(two(), 4), slices.Repeat(two(), 1000), one(slices.Repeat(list(a, b), 1000)...)} {
		air.CheckAir(x)
		air.LayerAt(x, a)
		air.Split(x, b)
		air.Reversed(x)
		air.Compared(x, a, b, along)
		air.Compared(x, 0, 1, along)
		air.Ranked(x, along)
		air.Turned(x, a, api.Ratio{Num: 1, Den: 1})
		air.Turned(x, 0, api.Ratio{Num: a, Den: b})
		air.Print(x)
		for _, p := range paths {
			air.Steps(x, p)
			air.Passed(x, p)
			air.Arrived(x, p, []int{a})
			air.Emitted(x, p, list(a, b))
			air.Bent(x, p)
			air.Shadowed(x, p)
			air.Echoed(x, p)
			air.Total(x, p, 1, []int{a, b}[:1])
			air.Total(x, p, z, nil)
		}
	}
}

// P1: each function terminates and does not panic, for all arguments.
func TestAnyArguments(t *testing.T) {
	for _, a := range anyInts {
		for _, b := range anyInts {
			tryInts(a, b)
		}
	}
	anyFloats := []float64{math.NaN(), math.Inf(1), math.Inf(-1), math.MaxFloat64, -math.MaxFloat64, math.SmallestNonzeroFloat64, 0.5, math.Copysign(0, -1), 1, 1001}
	for _, x := range anyFloats {
		for _, y := range anyFloats {
			air.Factor(complex(x, y))
			air.Share(complex(x, y))
			air.Total(two(), step(), complex(x, y), []int{1})
		}
	}
	for _, s := range anyStrings {
		air.Parse(s)
	}
	r := seeded()
	for range 3000 {
		s := []byte(twoString)
		for range from(r, 1, 5) {
			s[r.Intn(len(s))] = "\n 019-a\xff"[r.Intn(8)]
		}
		air.Parse(string(s))
		air.Parse(string(s[:r.Intn(len(s))]))
	}
}

// spoil changes all of an air, also behind the ends of its lists.
func spoil(a []air.Layer) {
	for i := range a {
		a[i].Thickness, a[i].Wind = 99, api.Point{X: 99, Y: 99}
		a[i].Pass = append(a[i].Pass, of(9, 9))
		a[i].Pass[0] = of(7, 7)
	}
}

// Arguments are not modified, and results share no memory with them or with each other.
func TestMemory(t *testing.T) {
	a, energies, heard := two(), []int{1000}, list(900, 951)
	split, _ := air.Split(a, 120)
	split[1].Pass[0] = of(7, 7)
	are(t, "the other part", split[2].Pass, list(800, 800))
	spoil(split)
	reversed, _ := air.Reversed(a)
	spoil(reversed)
	parsed, _, _ := air.Parse(twoString)
	parsed[0].Pass = append(parsed[0].Pass, of(9, 9))
	are(t, "the next layer", parsed[1].Pass, list(800, 800))
	spoil(parsed)
	parsed, _, _ = air.Parse(twoString)
	areAirs(t, "Parse again", parsed, two())
	ranked, _ := air.Ranked(a, api.Point{X: 1})
	steps, _ := air.Steps(a, step())
	passed, _ := air.Passed(a, step())
	echoed, _ := air.Echoed(a, step())
	arrived, _ := air.Arrived(a, step(), energies)
	emitted, _ := air.Emitted(a, step(), heard)
	total, _ := air.Total(a, step(), 1i, energies)
	ranked[0], steps[0], passed[0], echoed[0], arrived[0], emitted[0], total[0] = 7, of(7, 7), of(7, 7), of(7, 7), of(7, 7), of(7, 7), of(7, 7)
	areAirs(t, "the air", a, two())
	are(t, "the energies", energies, []int{1000})
	are(t, "what is heard", heard, list(900, 951))
	again, _ := air.Passed(a, step())
	are(t, "Passed again", again, list(900, 950))
}
