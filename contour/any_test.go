package contour_test

import (
	"math"
	"slices"
	"strings"
	"testing"

	"flyover/api"
	"flyover/contour"
)

var (
	anyInts    = []int{math.MinInt, -17, -1, 0, 1, 2, 3, 15, 16, 17, 120, 121, 256, 1000001, api.MaxEnergy, api.MaxEnergy + 1, 1 << 32, 1 << 62, math.MaxInt}
	anyStrings = []string{"", "\n", " ", "\x00", "\xff\n", "grid", "grid \n", "grid 0 0\n", "row\n", shownString + "row", strings.Repeat(" ", 4096), strings.Repeat("row 1\n", 600), "grid 1 1\nrow " + strings.Repeat("9", 1<<20)}
)

// tryInts calls all functions with arguments of which some have two integers.
func tryInts(a, b int) {
	grids := []contour.Grid{
		shown(), {}, grid(a, b), grid(a, b, a, b), grid(b, a, alike(16, 1)...), grid(2, 1, a, b), even(16, 16, 10), {Energies: make([]int, 1000)},
	}
	polygons := [][]contour.Polygon{
		nil, rings(nil), rings(ring(a, b, b, a, a, a)), rings(square(0, 0, 3, 2), square(a, a, b, b)), rings(square(a, 0, b, 1)), alike(1000, square(0, 0, 1, 1)), rings(make(contour.Polygon, 5000)),
	}
	people := [][]api.Interval{nil, alike(6, of(a, b)), alike(6, of(0, 1)), make([]api.Interval, 1000)}
	cell := at(a, b)
	for _, g := range grids {
		contour.CheckGrid(g)
		contour.At(g, cell)
		contour.Levels(g)
		contour.Above(g, a)
		contour.Contours(g, a)
		contour.Hottest(g, b)
		contour.Tile(g, box(a, b, b, a))
		contour.Tile(g, box(0, a, 0, b))
		contour.Print(g)
		for _, l := range polygons {
			contour.CheckContours(g, b, l)
			contour.CheckContours(g, 0, l)
		}
		for _, l := range people {
			contour.Exposed(g, l, a)
			contour.Classes(g, l, []int{a, b})
			contour.Classes(g, l, alike(1000, b))
		}
		for _, h := range grids {
			contour.Difference(g, h)
			contour.Joined(g, h)
			contour.Overlaid(g, h, cell)
			contour.Overlaid(g, h, at(1, a))
			tryGrids(pair(g, h), a, b)
		}
		tryGrids(alike(16, g), b, a)
		tryGrids(alike(1000, g), a, b)
	}
	tryGrids(nil, a, b)
	for _, l := range polygons {
		contour.Inside(l, cell)
		contour.Inside(l, at(1, 1))
		for _, p := range l[:min(len(l), 3)] {
			contour.Area(p)
		}
	}
}

// tryGrids calls all functions of a list of grids with two integers.
func tryGrids(l []contour.Grid, a, b int) {
	contour.Added(l)
	contour.Loudest(l)
	contour.Shares(l, at(a, b))
	contour.Shares(l, at(0, 0))
	contour.Without(l, a, b)
	contour.Without(l, 0, b)
}

// P1: each function terminates and does not panic, for all arguments.
func TestAnyArguments(t *testing.T) {
	for _, a := range anyInts {
		for _, b := range anyInts {
			tryInts(a, b)
		}
	}
	for _, s := range anyStrings {
		contour.Parse(s)
	}
	r := seeded()
	for range 3000 {
		s := []byte(shownString)
		for range from(r, 1, 5) {
			s[r.Intn(len(s))] = "\n 019-gr\xff"[r.Intn(9)]
		}
		contour.Parse(string(s))
		contour.Parse(string(s[:r.Intn(len(s))]))
	}
}

// Arguments are not modified, and results share no memory with them or with each other.
func TestMemory(t *testing.T) {
	g, other, people, levels := shown(), even(3, 2, 10), crowd(), []int{0, 10}
	added, _ := contour.Added(pair(g, other))
	alone, _ := contour.Added([]contour.Grid{g})
	row, _ := contour.Tile(g, box(0, 3, 0, 1))
	whole, _ := contour.Tile(g, box(0, 3, 0, 2))
	laid, _ := contour.Overlaid(g, shown(), at(0, 0))
	both, _ := contour.Joined(g, other)
	for _, x := range []contour.Grid{added, alone, row, whole, laid, both} {
		x.Energies[0] = 7
		_ = append(x.Energies, 7)
	}
	own, _ := contour.Levels(g)
	own[0] = 7
	difference, _ := contour.Difference(g, other)
	difference[0] = 7
	cells, _ := contour.Hottest(g, 2)
	cells[0] = at(7, 7)
	classes, _ := contour.Classes(g, people, levels)
	classes[0] = of(7, 7)
	contour.Exposed(g, people, 0)
	contour.Loudest(pair(g, other))
	contour.Without(pair(g, other), 0, 0)
	contour.Shares(pair(g, other), at(0, 0))
	isGrid(t, "the grid", g, shown())
	isGrid(t, "the other grid", other, even(3, 2, 10))
	are(t, "the people", people, crowd())
	are(t, "the levels", levels, []int{0, 10})
	want := rings(square(0, 0, 3, 3), ring(1, 1, 1, 2, 2, 2, 2, 1))
	l := rings(slices.Clone(want[0]), slices.Clone(want[1]))
	hole := grid(3, 3, 10, 10, 10, 10, 0, 10, 10, 10, 10)
	is(t, "CheckContours", contour.CheckContours(hole, 0, l), api.OK)
	contour.Inside(l, at(1, 1))
	contour.Area(l[1])
	areRings(t, "the polygons", l, want)
	found, _ := contour.Contours(hole, 0)
	found[0] = append(found[0], at(7, 7))
	found[0][0] = at(7, 7)
	areRings(t, "the polygon that is not changed", found[1:], want[1:])
	again, _ := contour.Contours(hole, 0)
	areRings(t, "Contours again", again, want)
}
