package town_test

import (
	"math/big"
	"math/rand"
	"slices"
	"strconv"
	"testing"

	"flyover/api"
	"flyover/town"
)

// is compares a result with the expected one.
func is[T comparable](t *testing.T, what string, got, want T) {
	t.Helper()
	if got != want {
		t.Errorf("%s: got %v, want %v", what, got, want)
	}
}

// are compares a list with the expected one; nil and empty lists are equal.
func are[T comparable](t *testing.T, what string, got, want []T) {
	t.Helper()
	if !slices.Equal(got, want) {
		t.Errorf("%s: got %v, want %v", what, got, want)
	}
}

// seeded returns numbers that are the same in each run.
func seeded() *rand.Rand { return rand.New(rand.NewSource(1)) }

// from returns an integer from low to high.
func from(r *rand.Rand, low, high int) int { return low + r.Intn(high-low+1) }

func of(low, high int) api.Interval { return api.Interval{Low: low, High: high} }

func at(x, y, z int) api.Vector { return api.Vector{X: x, Y: y, Z: z} }

func point(x, y int) api.Point { return api.Point{X: x, Y: y} }

func ratio(num, den int) api.Ratio { return api.Ratio{Num: num, Den: den} }

// The spots of the document's examples, and one that is too far up.
var (
	spotS = at(-8, 0, 2)
	spotR = at(4, 0, 5)
	spotQ = at(-4, 6, 2)
	far   = at(0, 0, 1001)
)

// wall returns a wall from a to b; its echo is 500.
func wall(name string, a, b api.Point, height int) town.Wall {
	return town.Wall{Name: name, A: a, B: b, Height: height, Echo: 500}
}

// screen returns the wall W of the document's examples with a height.
func screen(height int) town.Wall { return wall("w", point(0, -10), point(0, 10), height) }

// changed returns W with a change.
func changed(f func(w *town.Wall)) town.Wall {
	w := screen(6)
	f(&w)
	return w
}

// badWall is a wall with an error that spots, points and boxes do not have, ErrConflict.
func badWall() town.Wall { return changed(func(w *town.Wall) { w.B = w.A }) }

// table returns the table of the document's examples.
func table() []town.Step { return []town.Step{{From: 1, Factor: 800}, {From: 3, Factor: 500}} }

// building returns a building with corners; without any it is that of the document's examples.
func building(corners ...api.Point) town.Building {
	if len(corners) == 0 {
		corners = []api.Point{point(0, 0), point(4, 0), point(4, 3), point(0, 3)}
	}
	return town.Building{Name: "b", Corners: corners, Height: 5, Echo: 100}
}

// altered returns the building of the examples with a change.
func altered(f func(b *town.Building)) town.Building {
	b := building()
	f(&b)
	return b
}

// octagon returns the corners of an octagon in a square with this side, cut by so much.
func octagon(side, cut int) []api.Point {
	far := side - cut
	return []api.Point{
		point(cut, 0), point(far, 0), point(side, cut), point(side, far),
		point(far, side), point(cut, side), point(0, far), point(0, cut),
	}
}

// someSpot returns a spot within a reach of 0, 0, 0.
func someSpot(r *rand.Rand, reach int) api.Vector {
	return at(from(r, -reach, reach), from(r, -reach, reach), from(r, 0, reach))
}

// someWall returns a wall within a reach; many are even.
func someWall(r *rand.Rand, name string, reach int) town.Wall {
	for {
		w := town.Wall{Name: name, Height: from(r, 1, reach), Echo: from(r, 0, 1000)}
		w.A = point(from(r, -reach, reach), from(r, -reach, reach))
		w.B = point(from(r, -reach, reach), from(r, -reach, reach))
		switch n := from(r, -reach, reach); r.Intn(6) {
		case 0:
			w.B.X = w.A.X
		case 1:
			w.B.Y = w.A.Y
		case 2:
			w.B = point(w.A.X+n, w.A.Y+n)
		case 3:
			w.B = point(w.A.X+n, w.A.Y-n)
		}
		if town.CheckWalls([]town.Wall{w}) == api.OK {
			return w
		}
	}
}

// someWalls returns n walls within a reach.
func someWalls(r *rand.Rand, n, reach int) []town.Wall {
	var l []town.Wall
	for i := range n {
		l = append(l, someWall(r, "w"+strconv.Itoa(i), reach))
	}
	return l
}

// someBuilding returns a building within a reach of 0, 0 (at least 4), with the corners of an octagon, without some.
func someBuilding(r *rand.Rand, name string, reach int) town.Building {
	side := from(r, 4, reach)
	corners := octagon(side, from(r, 1, (side-1)/2))
	for range from(r, 0, 5) {
		i := r.Intn(len(corners))
		corners = slices.Delete(corners, i, i+1)
	}
	x, y := from(r, -reach, reach-side), from(r, -reach, reach-side)
	for i := range corners {
		corners[i].X += x
		corners[i].Y += y
	}
	return town.Building{Name: name, Corners: corners, Height: from(r, 1, 9), Echo: from(r, 0, 1000)}
}

// someTable returns a table whose steps begin at low depths.
func someTable(r *rand.Rand) []town.Step {
	depth, factor := 0, 1000
	var l []town.Step
	for range from(r, 1, 16) {
		depth += from(r, 1, 3)
		factor = from(r, factor/2, factor)
		l = append(l, town.Step{From: depth, Factor: factor})
	}
	return l
}

// exact is a spot whose parts are ratios: the tests compute with them, and not with integers.
type exact [3]*big.Rat

func rat(n int) *big.Rat { return big.NewRat(int64(n), 1) }

func spot(p api.Vector) exact { return exact{rat(p.X), rat(p.Y), rat(p.Z)} }

func plan(p api.Point) exact { return exact{rat(p.X), rat(p.Y), rat(0)} }

func add(x, y *big.Rat) *big.Rat { return new(big.Rat).Add(x, y) }

func sub(x, y *big.Rat) *big.Rat { return new(big.Rat).Sub(x, y) }

func mul(x, y *big.Rat) *big.Rat { return new(big.Rat).Mul(x, y) }

// towards returns the spot that lies the part n of the way from a to b.
func towards(a, b exact, n *big.Rat) exact {
	var p exact
	for i := range p {
		p[i] = add(a[i], mul(n, sub(b[i], a[i])))
	}
	return p
}

// measured returns the measure of a spot by a wall, with the sign of its side.
func measured(w town.Wall, p exact) *big.Rat {
	a, b := plan(w.A), plan(w.B)
	return sub(mul(sub(b[0], a[0]), sub(p[1], a[1])), mul(sub(b[1], a[1]), sub(p[0], a[0])))
}

// along returns which part of the way from A to B a spot is.
func along(w town.Wall, p exact) *big.Rat {
	a, b := plan(w.A), plan(w.B)
	x, y := sub(b[0], a[0]), sub(b[1], a[1])
	part := add(mul(x, sub(p[0], a[0])), mul(y, sub(p[1], a[1])))
	return part.Quo(part, add(mul(x, x), mul(y, y)))
}

// through returns where a path meets a wall, and whether the wall cuts it.
func through(w town.Wall, s, r exact) (exact, bool) {
	p, q := measured(w, s), measured(w, r)
	if p.Sign()*q.Sign() >= 0 {
		return exact{}, false
	}
	x := towards(s, r, new(big.Rat).Quo(p, sub(p, q)))
	part := along(w, x)
	return x, part.Sign() >= 0 && part.Cmp(rat(1)) <= 0 && x[2].Cmp(rat(w.Height)) < 0
}

// asRatio returns a ratio in lowest terms.
func asRatio(x *big.Rat) api.Ratio { return ratio(int(x.Num().Int64()), int(x.Denom().Int64())) }

// asInt returns a ratio that is an integer.
func asInt(t *testing.T, x *big.Rat) int {
	t.Helper()
	is(t, "an integer", x.IsInt(), true)
	return int(x.Num().Int64())
}

// ceil returns a ratio above 0, rounded up.
func ceil(x *big.Rat) int {
	r := asRatio(x)
	return (r.Num + r.Den - 1) / r.Den
}

// squared returns the square of two spots.
func squared(a, b api.Vector) int {
	return (a.X-b.X)*(a.X-b.X) + (a.Y-b.Y)*(a.Y-b.Y) + (a.Z-b.Z)*(a.Z-b.Z)
}
