package town_test

import (
	"math"
	"slices"
	"strings"
	"testing"

	"flyover/api"
	"flyover/town"
)

var (
	anyInts    = []int{math.MinInt, -1001, -1000, -1, 0, 1, 3, 31, 1000, 1001, 1000000, 20000001, api.MaxEnergy, 1 << 62, math.MaxInt}
	anyStrings = []string{"", "\n", " ", "\x00", "\xff\n", "wall", "wall \n", "wall -", screenString + "wall", strings.Repeat(" ", 4096), strings.Repeat("wall w\n", 500), strings.Repeat("9", 1<<20)}
)

// tryInts calls all functions with arguments of which some have two integers.
func tryInts(a, b int) {
	walls := []town.Wall{
		screen(6), {}, wall("w", point(a, b), point(b, a), a), wall("w", point(a, a), point(a, b), b),
		changed(func(w *town.Wall) { w.A.X, w.Echo = a, b }), changed(func(w *town.Wall) { w.B, w.Height = point(a, b), b }),
	}
	spots := []api.Vector{spotS, at(a, b, a), at(b, a, b), at(0, 0, a), {}}
	p, box := point(a, b), town.Box{From: point(b, a), To: point(a, b)}
	for _, w := range walls {
		town.Side(w, p)
		town.Within([]town.Wall{w}, box)
		town.Print([]town.Wall{w})
		for _, s := range spots {
			town.Image(w, s)
			town.Cuts(w, s, spotR)
			town.Excess(w, spotR, s)
			town.Depth(w, spotR, s)
			town.Detour(s, spotR, at(b, b, a))
		}
	}
	town.Length(a)
	table := []town.Step{{From: 1, Factor: a}, {From: b, Factor: a}}
	town.CheckTable(table)
	town.Factor(table, b)
	for _, l := range [][]town.Wall{nil, walls[:1], walls, {walls[0], wall("v", point(3, b), point(a, 3), 9)}, slices.Repeat(walls, 1000)} {
		town.CheckWalls(l)
		for _, s := range spots {
			town.Depths(l, s, spotR)
			town.Reflected(l, a, s, spotR)
			town.Reflected(l, 0, s, spotQ)
			town.Mirrors(l, s, spotQ)
			town.Screened(l, table, [2]api.Vector{s, spotR}, b)
			town.Heard(l, steps(1, 5), [2]api.Vector{s, spotQ}, a)
		}
	}
	for _, b := range []town.Building{{}, building(), building(p, point(b, a), point(a, a)), altered(func(x *town.Building) { x.Height, x.Echo = a, b }), building(slices.Repeat([]api.Point{p, {}}, 1000)...)} {
		town.CheckBuildings([]town.Building{b, b})
		town.CheckBuildings(slices.Repeat([]town.Building{b}, 1000))
		town.Walls([]town.Building{b})
		town.Facing(b, p)
		town.Has(b, p)
	}
}

// P1: each function terminates and does not panic, for all arguments.
func TestAnyArguments(t *testing.T) {
	for _, a := range anyInts {
		for _, b := range anyInts {
			tryInts(a, b)
		}
	}
	for _, s := range anyStrings {
		town.Parse(s)
	}
	r := seeded()
	for range 3000 {
		s := []byte(screenString + lastString)
		for range from(r, 1, 5) {
			s[r.Intn(len(s))] = "\n 019-a\xff"[r.Intn(8)]
		}
		town.Parse(string(s))
		town.Parse(string(s[:r.Intn(len(s))]))
	}
}

// Arguments are not modified, and results share no memory with them.
func TestMemory(t *testing.T) {
	walls, table, corners := []town.Wall{screen(6), wall("v", point(50, 0), point(51, 9), 9)}, table(), octagon(9, 3)
	kept, keptTable, keptCorners := slices.Clone(walls), slices.Clone(table), slices.Clone(corners)
	box := town.Box{From: point(-1000, -1000), To: point(1000, 1000)}
	path := [2]api.Vector{spotS, spotQ}
	near, _ := town.Within(walls, box)
	near[0].Height, near[1].Name = 9, "x"
	near = append(near[:1], town.Wall{})
	some, _ := town.Within(walls, town.Box{From: point(40, 0), To: point(60, 9)})
	are(t, "the walls within a box", some, kept[1:])
	of, _ := town.Walls([]town.Building{building(corners...)})
	of[0].A, of[0].Height = point(7, 7), 99
	depths, _, _ := town.Depths(walls, spotS, spotR)
	depths[0] = 7
	mirrors, _ := town.Mirrors(walls, spotS, spotQ)
	mirrors[0].Wall = 7
	faces, _ := town.Facing(building(corners...), point(20, 5))
	faces[0] = 7
	town.Heard(walls, table, path, 1000)
	town.Screened(walls, table, path, 1000)
	town.Factor(table, 2)
	are(t, "the walls", walls, kept)
	are(t, "the table", table, keptTable)
	are(t, "the corners", corners, keptCorners)
	is(t, "the path", path, [2]api.Vector{spotS, spotQ})
	again, _ := town.Mirrors(walls, spotS, spotQ)
	is(t, "Mirrors again", again[0].Wall, 0)
}
