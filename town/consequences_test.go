package town_test

import (
	"fmt"
	"slices"
	"testing"

	"flyover/api"
	"flyover/town"
)

// P4.5, P5: if both spots change places, the same walls cut, with the same depths, and the same walls reflect at the same places.
func TestPathsBack(t *testing.T) {
	r := seeded()
	cut, reflected := 0, 0
	for i := range 3000 {
		reach := []int{6, 12, 1000}[i%3]
		l, s, to := someWalls(r, from(r, 1, 8), reach), someSpot(r, reach), someSpot(r, reach)
		what := fmt.Sprint(l, s, to)
		for _, w := range l {
			there, _ := town.Excess(w, s, to)
			back, _ := town.Excess(w, to, s)
			is(t, "Excess back of "+what, back, there)
			is1, _ := town.Cuts(w, s, to)
			is2, _ := town.Cuts(w, to, s)
			is(t, "Cuts back of "+what, is2, is1)
		}
		all, sum, e := town.Depths(l, s, to)
		is(t, "error of Depths", e, api.OK)
		again, total, _ := town.Depths(l, to, s)
		are(t, "Depths back of "+what, again, all)
		is(t, "the sum back of "+what, total, sum)
		there, e := town.Mirrors(l, s, to)
		is(t, "error of Mirrors", e, api.OK)
		back, _ := town.Mirrors(l, to, s)
		for i := range back {
			// The image is that of the other spot.
			back[i].Image, _ = town.Image(l[back[i].Wall], s)
		}
		are(t, "Mirrors back of "+what, back, there)
		reflected += len(there)
		if sum > 0 {
			cut++
		}
	}
	is(t, "many are cut and reflected", cut > 500 && reflected > 200, true)
}

// P4.5: a wall that is higher cuts what it cut before, and is no less deep.
func TestHigherWalls(t *testing.T) {
	r := seeded()
	cut := 0
	for range 3000 {
		w, s, to := someWall(r, "w", 12), someSpot(r, 12), someSpot(r, 12)
		high := w
		high.Height += from(r, 1, 12)
		before, e := town.Depth(w, s, to)
		is(t, "error of Depth", e, api.OK)
		after, _ := town.Depth(high, s, to)
		is(t, fmt.Sprint("depths of ", w, high, s, to, ": ", before, after), after >= before, true)
		is1, _ := town.Cuts(w, s, to)
		is2, _ := town.Cuts(high, s, to)
		is(t, fmt.Sprint("Cuts of ", w, high, s, to), is1 && !is2, false)
		if is1 {
			cut++
		}
	}
	is(t, fmt.Sprint("many are cut: ", cut), cut > 200, true)
}

// P4.5, P5: screening never raises an energy, also not by a wall more; and what is heard is at most the energy and its reflections.
func TestScreeningNeverRaises(t *testing.T) {
	r := seeded()
	for range 2000 {
		l, table, energy := someWalls(r, from(r, 1, 8), 12), someTable(r), from(r, 0, 100000)
		path := [2]api.Vector{someSpot(r, 12), someSpot(r, 12)}
		screened, e := town.Screened(l, table, path, energy)
		is(t, "error of Screened", e, api.OK)
		is(t, fmt.Sprint("Screened of ", energy, ": ", screened), 0 <= screened.Low && screened.Low <= screened.High && screened.High <= energy, true)
		fewer, _ := town.Screened(l[1:], table, path, energy)
		is(t, fmt.Sprint("Screened by fewer walls: ", fewer, screened), fewer.Low >= screened.Low && fewer.High >= screened.High, true)
		most := energy
		mirrors, _ := town.Mirrors(l, path[0], path[1])
		for _, x := range mirrors {
			most += (energy*l[x.Wall].Echo + 999) / 1000
		}
		heard, e := town.Heard(l, table, path, energy)
		is(t, "error of Heard", e, api.OK)
		is(t, fmt.Sprint("Heard of ", energy, ": ", heard), screened.Low <= heard.Low && heard.Low <= heard.High && heard.High <= most, true)
	}
}

// P4.5, P5: the order of walls makes no difference.
func TestOrderOfWalls(t *testing.T) {
	r := seeded()
	for range 1000 {
		l, table, path := someWalls(r, from(r, 2, 8), 12), someTable(r), [2]api.Vector{someSpot(r, 12), someSpot(r, 12)}
		order := r.Perm(len(l))
		other := make([]town.Wall, len(l))
		for i, n := range order {
			other[i] = l[n]
		}
		depths, sum, _ := town.Depths(l, path[0], path[1])
		moved, total, _ := town.Depths(other, path[0], path[1])
		is(t, "the sum", total, sum)
		for i, n := range order {
			is(t, fmt.Sprint("the depth of ", l[n]), moved[i], depths[n])
		}
		mirrors, _ := town.Mirrors(l, path[0], path[1])
		back, _ := town.Mirrors(other, path[0], path[1])
		is(t, "as many mirrors", len(back), len(mirrors))
		for _, x := range back {
			x.Wall = order[x.Wall]
			is(t, fmt.Sprint("a mirror ", x), slices.Contains(mirrors, x), true)
		}
		heard, _ := town.Heard(l, table, path, 77777)
		again, _ := town.Heard(other, table, path, 77777)
		is(t, "Heard", again, heard)
		is(t, "CheckWalls", town.CheckWalls(other), api.OK)
	}
}

// P4.5: the image of an image is the spot, and both have the same measure on different sides.
func TestImagesComeBack(t *testing.T) {
	r := seeded()
	seen := 0
	for range 3000 {
		w, s := someWall(r, "w", 300), someSpot(r, 300)
		image, e := town.Image(w, s)
		if !isEven(w) {
			is(t, "error of Image", e, api.ErrRule)
			continue
		}
		is(t, "error of Image", e, api.OK)
		is(t, "the measure of "+fmt.Sprint(image), measured(w, spot(image)).Cmp(sub(rat(0), measured(w, spot(s)))), 0)
		one, _ := town.Side(w, point(s.X, s.Y))
		other, e := town.Side(w, point(image.X, image.Y))
		is(t, "error of Side", e, api.OK)
		is(t, "the other side", other, -one)
		back, e := town.Image(w, image)
		is(t, "error of Image of an image", e, api.OK)
		is(t, fmt.Sprint("the image of ", image, " by ", w), back, s)
		seen++
	}
	is(t, "many have images", seen > 1000, true)
}

// P4.5: a length has its square between both squares, and no interval is narrower.
func TestLengthsOfSquares(t *testing.T) {
	for n := 0; n <= town.MaxSquare; n += 1 + n/700 {
		x, e := town.Length(n)
		is(t, "error of Length", e, api.OK)
		is(t, fmt.Sprint("Length of ", n, ": ", x), x.Low*x.Low <= n && n <= x.High*x.High, true)
		is(t, fmt.Sprint("Low of ", n, ": ", x), (x.Low+1)*(x.Low+1) > n, true)
		is(t, fmt.Sprint("High of ", n, ": ", x), x.High == 0 || (x.High-1)*(x.High-1) < n, true)
	}
}

// P4.5: a path within a box is cut by the walls within it alone.
func TestPathsWithinBoxes(t *testing.T) {
	r := seeded()
	left, cut := 0, 0
	for range 2000 {
		l, s, to := someWalls(r, 8, 12), someSpot(r, 12), someSpot(r, 12)
		b := town.Box{From: point(min(s.X, to.X), min(s.Y, to.Y)), To: point(max(s.X, to.X), max(s.Y, to.Y))}
		near, e := town.Within(l, b)
		is(t, "error of Within", e, api.OK)
		for _, w := range l {
			cuts, _ := town.Cuts(w, s, to)
			is(t, fmt.Sprint("a wall that cuts, ", w, ", is within ", b), cuts && !slices.Contains(near, w), false)
			if cuts {
				cut++
			}
		}
		_, all, _ := town.Depths(l, s, to)
		_, some, _ := town.Depths(near, s, to)
		is(t, fmt.Sprint("the depth by the walls within ", b), some, all)
		left += len(l) - len(near)
	}
	is(t, "many cut, and many are left out", cut > 1000 && left > 1000, true)
}

// P4.5: a point is in a building exactly if no face is towards it.
func TestPointsOfBuildings(t *testing.T) {
	r := seeded()
	inside := 0
	for range 3000 {
		b, p := someBuilding(r, "b", 12), point(from(r, -14, 14), from(r, -14, 14))
		faces, e := town.Facing(b, p)
		is(t, fmt.Sprint("error of Facing of ", b), e, api.OK)
		has, e := town.Has(b, p)
		is(t, "error of Has", e, api.OK)
		is(t, fmt.Sprint("Has of ", b, p), has, len(faces) == 0)
		walls, _ := town.Walls([]town.Building{b})
		for i, w := range walls {
			side, _ := town.Side(w, p)
			is(t, fmt.Sprint("the face ", i, " of ", b, p), slices.Contains(faces, i), side < 0)
		}
		if has {
			inside++
		}
	}
	is(t, fmt.Sprint("some are inside, and some outside: ", inside), inside > 150 && inside < 2500, true)
}

// P4.5: walls are parsed as they were printed.
func TestWallsComeBack(t *testing.T) {
	r := seeded()
	for range 500 {
		l := someWalls(r, from(r, 0, 32), 1000)
		s, e := town.Print(l)
		is(t, "error of Print", e, api.OK)
		back, i, e := town.Parse(s)
		are(t, "Parse", back, l)
		is(t, "index", i, 0)
		is(t, "error of Parse", e, api.OK)
	}
}
