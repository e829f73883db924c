package town_test

import (
	"fmt"
	"math"
	"slices"
	"strings"
	"testing"

	"flyover/api"
	"flyover/town"
)

// reversed returns points in the opposite order.
func reversed(l []api.Point) []api.Point {
	l = slices.Clone(l)
	slices.Reverse(l)
	return l
}

// badBuilding is a building with the last of the errors of one, ErrRange of its echo.
func badBuilding() town.Building { return altered(func(b *town.Building) { b.Echo = 1001 }) }

// P4.4: the errors of a building, in their order.
func TestCheckBuildings(t *testing.T) {
	line := []api.Point{point(0, 0), point(2, 0), point(4, 0), point(4, 3)}
	for i, x := range []struct {
		change func(b *town.Building)
		e      api.Errno
	}{
		{func(b *town.Building) {}, api.OK}, {func(b *town.Building) { b.Name = strings.Repeat("a", 22) }, api.OK}, {func(b *town.Building) { b.Height, b.Echo = 1, 0 }, api.OK},
		{func(b *town.Building) { b.Height, b.Echo = 1000, 1000 }, api.OK}, {func(b *town.Building) { b.Corners = octagon(9, 3) }, api.OK},
		{func(b *town.Building) { b.Corners = []api.Point{point(0, 0), point(4, 0), point(0, 1)} }, api.OK},
		{func(b *town.Building) {
			b.Corners = []api.Point{point(-1000, -1000), point(1000, -1000), point(1000, 1000), point(-1000, 1000)}
		}, api.OK},
		{func(b *town.Building) { b.Name = "" }, api.ErrName}, {func(b *town.Building) { b.Name = "0" }, api.ErrName}, {func(b *town.Building) { b.Name = strings.Repeat("a", 23) }, api.ErrName},
		{func(b *town.Building) { b.Name = strings.Repeat("a", 25) }, api.ErrName}, {func(b *town.Building) { b.Corners = nil }, api.ErrShort},
		{func(b *town.Building) { b.Corners = b.Corners[:2] }, api.ErrShort}, {func(b *town.Building) { b.Corners = append(octagon(9, 3), point(0, 4)) }, api.ErrMany},
		{func(b *town.Building) { b.Corners = make([]api.Point, 9) }, api.ErrMany}, {func(b *town.Building) { b.Corners = make([]api.Point, 8) }, api.ErrShape},
		{func(b *town.Building) { b.Corners[1].X = 1001 }, api.ErrRange}, {func(b *town.Building) { b.Corners[3].Y = 1001 }, api.ErrRange},
		{func(b *town.Building) { b.Corners[0].X = -1001 }, api.ErrRange}, {func(b *town.Building) { b.Corners[0].Y = -1001 }, api.ErrRange},
		{func(b *town.Building) { b.Corners[0], b.Corners[2].X = b.Corners[1], 1001 }, api.ErrRange}, {func(b *town.Building) { b.Corners[2] = point(math.MaxInt, math.MinInt) }, api.ErrRange},
		// The wrong way around, three in a line, one inside of the others, crossing edges, and the same corner twice.
		{func(b *town.Building) { b.Corners = reversed(b.Corners) }, api.ErrShape}, {func(b *town.Building) { b.Corners = line }, api.ErrShape}, {func(b *town.Building) { b.Corners = line[:3] }, api.ErrShape},
		{func(b *town.Building) { b.Corners = []api.Point{point(0, 0), point(4, 0), point(1, 1), point(0, 4)} }, api.ErrShape},
		{func(b *town.Building) { b.Corners = []api.Point{point(0, 0), point(4, 3), point(4, 0), point(0, 3)} }, api.ErrShape},
		{func(b *town.Building) { b.Corners[1] = b.Corners[0] }, api.ErrShape}, {func(b *town.Building) { b.Corners[2] = b.Corners[0] }, api.ErrShape}, {func(b *town.Building) { b.Corners[3] = b.Corners[0] }, api.ErrShape},
		// Each corner is to the left of the edge before it, but the way leads around twice.
		{func(b *town.Building) {
			b.Corners = []api.Point{point(10, 0), point(-8, 6), point(3, -10), point(3, 10), point(-8, -6)}
		}, api.ErrShape},
		{func(b *town.Building) { b.Height = 0 }, api.ErrRange}, {func(b *town.Building) { b.Height = 1001 }, api.ErrRange},
		{func(b *town.Building) { b.Echo = -1 }, api.ErrRange}, {func(b *town.Building) { b.Echo = 1001 }, api.ErrRange},
		{func(b *town.Building) { b.Name, b.Corners = "", nil }, api.ErrName}, {func(b *town.Building) { b.Name, b.Corners = strings.Repeat("a", 23), nil }, api.ErrName},
		{func(b *town.Building) { b.Corners, b.Height = nil, 0 }, api.ErrShort}, {func(b *town.Building) { b.Corners, b.Height = line, 0 }, api.ErrShape},
		{func(b *town.Building) { b.Corners, b.Echo = make([]api.Point, 9), -1 }, api.ErrMany},
	} {
		b := altered(x.change)
		is(t, fmt.Sprint("CheckBuildings ", i), town.CheckBuildings([]town.Building{b}), x.e)
		other := altered(func(b *town.Building) { b.Name = "c" })
		is(t, fmt.Sprint("CheckBuildings of the second one ", i), town.CheckBuildings([]town.Building{other, b}), x.e)
		_, e := town.Facing(b, point(0, 0))
		is(t, fmt.Sprint("error of Facing ", i), e, x.e)
		_, e = town.Has(b, point(0, 0))
		is(t, fmt.Sprint("error of Has ", i), e, x.e)
		_, e = town.Walls([]town.Building{b})
		is(t, fmt.Sprint("error of Walls ", i), e, x.e)
	}
}

// P4.4: how many buildings there may be, and names that are there twice.
func TestCheckBuildingsTogether(t *testing.T) {
	named := func(names ...string) []town.Building {
		var l []town.Building
		for _, s := range names {
			l = append(l, altered(func(b *town.Building) { b.Name = s }))
		}
		return l
	}
	for i, x := range []struct {
		l []town.Building
		e api.Errno
	}{
		{nil, api.OK}, {named("a", "b", "c", "d"), api.OK}, {named("a", "A", "a_", "a_0"), api.OK}, {named("a", "b", "c", "d", "e"), api.ErrMany},
		{make([]town.Building, 5), api.ErrMany}, {make([]town.Building, 4), api.ErrName}, {named("a", "b", "c", "a"), api.ErrTwice}, {named("a", "a", ""), api.ErrTwice},
		{named("a", "", "a"), api.ErrName}, {[]town.Building{building(), badBuilding()}, api.ErrRange},
	} {
		is(t, fmt.Sprint("CheckBuildings ", i), town.CheckBuildings(x.l), x.e)
		l, e := town.Walls(x.l)
		is(t, fmt.Sprint("error of Walls ", i), e, x.e)
		is(t, fmt.Sprint("walls ", i), len(l), map[bool]int{true: 4 * len(x.l)}[x.e == api.OK])
	}
}

// P4.4: the walls of buildings.
func TestWalls(t *testing.T) {
	edge := func(name string, a, b api.Point) town.Wall {
		return town.Wall{Name: name, A: a, B: b, Height: 5, Echo: 100}
	}
	third := town.Building{Name: strings.Repeat("a", 22), Corners: []api.Point{point(-9, -9), point(-7, -9), point(-9, -8)}, Height: 1000, Echo: 7}
	l, e := town.Walls([]town.Building{building(), third})
	are(t, "Walls", l, []town.Wall{
		edge("b_0", point(0, 0), point(4, 0)), edge("b_1", point(4, 0), point(4, 3)), edge("b_2", point(4, 3), point(0, 3)), edge("b_3", point(0, 3), point(0, 0)),
		{Name: third.Name + "_0", A: point(-9, -9), B: point(-7, -9), Height: 1000, Echo: 7},
		{Name: third.Name + "_1", A: point(-7, -9), B: point(-9, -8), Height: 1000, Echo: 7},
		{Name: third.Name + "_2", A: point(-9, -8), B: point(-9, -9), Height: 1000, Echo: 7},
	})
	is(t, "error of Walls", e, api.OK)
	// As many as there may be, with the longest names.
	var all []town.Building
	for _, s := range []string{"a", "b", "c", "d"} {
		all = append(all, town.Building{Name: strings.Repeat(s, 22), Corners: octagon(9, 2), Height: 1})
	}
	l, e = town.Walls(all)
	is(t, "as many as there may be", len(l), 32)
	is(t, "error of Walls", e, api.OK)
	is(t, "CheckWalls of them", town.CheckWalls(l), api.OK)
	is(t, "the last name", l[31].Name, strings.Repeat("d", 22)+"_7")
	l, e = town.Walls(nil)
	is(t, "no walls", len(l), 0)
	is(t, "error of no walls", e, api.OK)
}

// P4.4: faces that are towards points, and points of buildings.
func TestFacingAndHas(t *testing.T) {
	eight := town.Building{Name: "o", Corners: octagon(9, 3), Height: 1}
	for i, x := range []struct {
		b   town.Building
		p   api.Point
		l   []int
		has bool
		e   api.Errno
	}{
		{building(), point(6, 1), []int{1}, false, api.OK}, {building(), point(6, 9), []int{1, 2}, false, api.OK}, {building(), point(-1, -1), []int{0, 3}, false, api.OK},
		{building(), point(2, 1), nil, true, api.OK}, {building(), point(4, 3), nil, true, api.OK}, {building(), point(0, 2), nil, true, api.OK}, {building(), point(2, 0), nil, true, api.OK},
		// On the line of a face, but beside it.
		{building(), point(4, 4), []int{2}, false, api.OK}, {building(), point(5, 0), []int{1}, false, api.OK}, {building(), point(-1, 3), []int{3}, false, api.OK},
		{building(), point(2, 4), []int{2}, false, api.OK}, {building(), point(1000, -1000), []int{0, 1}, false, api.OK},
		{eight, point(9, 9), []int{3}, false, api.OK}, {eight, point(8, 8), []int{3}, false, api.OK}, {eight, point(7, 8), nil, true, api.OK}, {eight, point(20, 5), []int{1, 2, 3}, false, api.OK},
		{eight, point(0, 0), []int{7}, false, api.OK}, {eight, point(4, -1000), []int{0, 1, 7}, false, api.OK},
		{building(), point(1001, 0), nil, false, api.ErrRange}, {building(), point(0, -1001), nil, false, api.ErrRange}, {badBuilding(), point(2, 1), nil, false, api.ErrRange},
		{altered(func(b *town.Building) { b.Name = "" }), point(1001, 0), nil, false, api.ErrName},
	} {
		l, e := town.Facing(x.b, x.p)
		are(t, fmt.Sprint("Facing ", i), l, x.l)
		is(t, fmt.Sprint("error of Facing ", i), e, x.e)
		has, e := town.Has(x.b, x.p)
		is(t, fmt.Sprint("Has ", i), has, x.has)
		is(t, fmt.Sprint("error of Has ", i), e, x.e)
	}
}

// P4.4: walls within boxes.
func TestWithin(t *testing.T) {
	l, _ := town.Walls([]town.Building{building()})
	slope := append(l, wall("s", point(-5, 9), point(-3, 5), 1))
	box := func(a, b, c, d int) town.Box { return town.Box{From: point(a, b), To: point(c, d)} }
	for i, x := range []struct {
		l     []town.Wall
		b     town.Box
		names string
		e     api.Errno
	}{
		{l, box(1, 1, 2, 2), "", api.OK}, {l, box(1, 1, 5, 2), "b_1", api.OK}, {l, box(4, 3, 4, 3), "b_1 b_2", api.OK}, {l, box(-9, -9, 9, 0), "b_0 b_1 b_3", api.OK},
		{l, box(-1000, -1000, 1000, 1000), "b_0 b_1 b_2 b_3", api.OK}, {l, box(5, 0, 9, 9), "", api.OK}, {l, box(4, 0, 9, 9), "b_0 b_1 b_2", api.OK}, {l, box(-9, -9, -1, 9), "", api.OK},
		{l, box(-9, -9, 9, -1), "", api.OK}, {l, box(-9, 3, 9, 9), "b_1 b_2 b_3", api.OK}, {l, box(-9, 4, 9, 9), "", api.OK}, {l, box(0, 1, 0, 1), "b_3", api.OK},
		// A slope does not meet the box, but is on no side of it; and the ends of both count in either order.
		{slope, box(-5, 5, -5, 5), "s", api.OK}, {slope, box(-3, 9, -3, 9), "s", api.OK}, {slope, box(-2, 5, -1, 9), "", api.OK}, {slope, box(-9, 5, -6, 9), "", api.OK},
		{slope, box(-5, 10, -3, 12), "", api.OK}, {slope, box(-5, 4, -3, 4), "", api.OK}, {slope, box(-9, 3, -5, 5), "s", api.OK}, {slope, box(-3, 3, 0, 5), "b_2 b_3 s", api.OK},
		{nil, box(0, 0, 0, 0), "", api.OK}, {l, box(1, 1, 0, 2), "", api.ErrOrder}, {l, box(1, 1, 2, 0), "", api.ErrOrder},
		{l, box(1001, 0, 0, 0), "", api.ErrRange}, {l, box(0, -1001, 0, 0), "", api.ErrRange}, {l, box(1, 0, 0, 1001), "", api.ErrRange}, {l, box(0, 0, -1001, 0), "", api.ErrRange},
		{append(l, l[0]), box(1001, 0, 0, 0), "", api.ErrTwice}, {[]town.Wall{badWall()}, box(1, 0, 0, 0), "", api.ErrConflict},
	} {
		near, e := town.Within(x.l, x.b)
		var names []string
		for _, w := range near {
			is(t, "the same wall", slices.Contains(x.l, w), true)
			names = append(names, w.Name)
		}
		is(t, fmt.Sprint("Within ", i), strings.Join(names, " "), x.names)
		is(t, fmt.Sprint("error of Within ", i), e, x.e)
	}
}
