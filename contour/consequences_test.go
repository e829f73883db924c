package contour_test

import (
	"fmt"
	"math/big"
	"slices"
	"testing"

	"flyover/api"
	"flyover/contour"
)

// P6.5, P7: contours are closed ways, each edge is in one of them, and they have just the cells within their level; their areas together are twice the number of these cells.
func TestContoursHaveTheirCells(t *testing.T) {
	r := seeded()
	for range 500 {
		g, level := blots(r, from(r, 1, 16), from(r, 1, 16), from(r, 0, 100)), 0
		if r.Intn(2) == 0 {
			g, level = anyGrid(r), from(r, 0, 60)
		}
		what := fmt.Sprint(g, level)
		l, e := contour.Contours(g, level)
		is(t, "error of Contours", e, api.OK)
		is(t, "CheckContours of "+what, contour.CheckContours(g, level, l), api.OK)
		is(t, "what is wrong with the contours of "+what, faultOfAll(g, level, l), "")
		areas := 0
		for _, p := range l {
			area, e := contour.Area(p)
			is(t, "error of Area", e, api.OK)
			areas += area
		}
		within, _ := contour.Above(g, level)
		cells := 0
		for i, c := range cellsOf(g) {
			has, e := contour.Inside(l, c)
			is(t, "error of Inside", e, api.OK)
			is(t, fmt.Sprint("Inside of ", c, " of "+what), has, within[i])
			if has {
				cells++
			}
		}
		is(t, "the areas of "+what, areas, 2*cells)
		// Of all cells that are not of the grid they have none.
		for _, c := range cellsOf(even(16, 16, 0)) {
			has, _ := contour.Inside(l, c)
			is(t, "a cell outside of "+what, has && (c.X >= g.Width || c.Y >= g.Height), false)
		}
	}
}

// leaves reports whether a cell is in some polygons, but not in other ones.
func leaves(before, after []contour.Polygon, g contour.Grid) bool {
	return slices.ContainsFunc(cellsOf(g), func(c api.Point) bool {
		was, _ := contour.Inside(before, c)
		stays, _ := contour.Inside(after, c)
		return was && !stays
	})
}

// P6.5: the contours of a greater level are nested within those of a lesser one, and no cell leaves them where energies grow.
func TestContoursAreNested(t *testing.T) {
	r := seeded()
	smaller := 0
	for range 300 {
		g := anyGrid(r)
		level := from(r, 0, 40)
		before, _ := contour.Contours(g, level)
		above, _ := contour.Contours(g, level+from(r, 1, 20))
		is(t, fmt.Sprint("a cell of a greater level alone of ", g, level), leaves(above, before, g), false)
		if leaves(before, above, g) {
			smaller++
		}
		more := contour.Grid{Width: g.Width, Height: g.Height, Energies: slices.Clone(g.Energies)}
		for range from(r, 1, len(g.Energies)) {
			i := r.Intn(len(g.Energies))
			more.Energies[i] = from(r, more.Energies[i], api.MaxEnergy)
		}
		after, _ := contour.Contours(more, level)
		is(t, fmt.Sprint("a cell that leaves the contours of ", g, level), leaves(before, after, g), false)
	}
	is(t, fmt.Sprint("many contours are smaller: ", smaller), smaller > 100, true)
}

// P6.5: a sum does not depend on the order, nor on parts.
func TestSumsInAnyOrder(t *testing.T) {
	r := seeded()
	for range 300 {
		l := someGrids(r, contour.MaxMaps)
		sum, e := contour.Added(l)
		is(t, "error of Added", e, api.OK)
		cut := from(r, 1, len(l))
		parts, _ := contour.Added(l[:cut])
		if cut < len(l) {
			parts, _ = contour.Added(slices.Concat([]contour.Grid{parts}, l[cut:]))
		}
		isGrid(t, "the sum of parts", parts, sum)
		r.Shuffle(len(l), func(i, j int) { l[i], l[j] = l[j], l[i] })
		other, e := contour.Added(l)
		isGrid(t, "the sum in another order", other, sum)
		is(t, "error of Added in another order", e, api.OK)
	}
}

// P6.5: shares add up to 1, and the loudest grid has the greatest one.
func TestSharesAddUp(t *testing.T) {
	r := seeded()
	summed := 0
	for range 300 {
		l := someGrids(r, contour.MaxMaps)
		loudest, _ := contour.Loudest(l)
		for i, c := range cellsOf(l[0]) {
			shares, e := contour.Shares(l, c)
			is(t, "no shares of nothing", e == api.ErrZero, loudest[i] == contour.None)
			if e != api.OK {
				continue
			}
			sum, most := new(big.Rat), new(big.Rat)
			for _, x := range shares {
				share := big.NewRat(int64(x.Num), int64(x.Den))
				is(t, fmt.Sprint("lowest terms of ", x), share.Num().Int64() == int64(x.Num) && share.Denom().Int64() == int64(x.Den), true)
				sum.Add(sum, share)
				if share.Cmp(most) > 0 {
					most = share
				}
			}
			is(t, fmt.Sprint("the sum of ", shares), sum.Cmp(big.NewRat(1, 1)), 0)
			loud := shares[loudest[i]]
			is(t, fmt.Sprint("the greatest one of ", shares), most.Cmp(big.NewRat(int64(loud.Num), int64(loud.Den))), 0)
			summed++
		}
	}
	is(t, fmt.Sprint("many cells have shares: ", summed), summed > 1000, true)
}

// P6.5, P7: the classes of all levels are the exposed of the least one.
func TestClassesAddUp(t *testing.T) {
	r := seeded()
	for range 500 {
		g := anyGrid(r)
		people, levels := somePeople(r, len(g.Energies)), someLevels(r)
		classes, e := contour.Classes(g, people, levels)
		is(t, "error of Classes", e, api.OK)
		is(t, "as many classes", len(classes), len(levels))
		var sum api.Interval
		for _, x := range classes {
			sum.Low += x.Low
			sum.High += x.High
		}
		all, e := contour.Exposed(g, people, levels[0])
		is(t, "error of Exposed", e, api.OK)
		is(t, fmt.Sprint("the classes of ", g, people, levels), sum, all)
	}
}

// P6.5, P7: a tile that is laid where it was changes nothing, and has the energies and the levels of the whole.
func TestTilesLaidBack(t *testing.T) {
	r := seeded()
	moved := 0
	for range 500 {
		g := anyGrid(r)
		b := someBox(r, g)
		tile, e := contour.Tile(g, b)
		is(t, "error of Tile", e, api.OK)
		back, e := contour.Overlaid(g, tile, at(b.Columns.From, b.Rows.From))
		isGrid(t, fmt.Sprint("Overlaid of ", g, b), back, g)
		is(t, "error of Overlaid", e, api.OK)
		whole, _ := contour.Levels(g)
		part, e := contour.Levels(tile)
		is(t, "error of Levels", e, api.OK)
		for i, c := range cellsOf(tile) {
			is(t, fmt.Sprint("the level of ", c, " of ", g, b), part[i], whole[(b.Rows.From+c.Y)*g.Width+b.Columns.From+c.X])
		}
		// What is laid anywhere else fits only where the energies are the same.
		there := at(r.Intn(g.Width), r.Intn(g.Height))
		as, fits := contour.Tile(g, box(there.X, there.X+tile.Width, there.Y, there.Y+tile.Height))
		_, e = contour.Overlaid(g, tile, there)
		want := api.OK
		switch {
		case fits != api.OK:
			want = api.ErrSpan
		case !slices.Equal(as.Energies, tile.Energies):
			want = api.ErrConflict
			moved++
		}
		is(t, fmt.Sprint("error of Overlaid of ", g, b, there), e, want)
	}
	is(t, fmt.Sprint("many tiles do not fit elsewhere: ", moved), moved > 50, true)
}

// P6.5: tiles that are joined are the whole again.
func TestTilesJoined(t *testing.T) {
	r := seeded()
	for range 500 {
		g := someGrid(r, from(r, 2, 16), from(r, 1, 16))
		cut := from(r, 1, g.Width-1)
		a, e := contour.Tile(g, box(0, cut, 0, g.Height))
		is(t, "error of Tile", e, api.OK)
		b, e := contour.Tile(g, box(cut, g.Width, 0, g.Height))
		is(t, "error of Tile", e, api.OK)
		whole, e := contour.Joined(a, b)
		isGrid(t, fmt.Sprint("Joined of ", g, cut), whole, g)
		is(t, "error of Joined", e, api.OK)
	}
}

// P6.5: grids are parsed as they were printed, and strings are printed as they were parsed.
func TestPrintAndParse(t *testing.T) {
	r := seeded()
	parsed := 0
	for range 3000 {
		g := anyGrid(r)
		if r.Intn(2) == 0 {
			g = someGrid(r, from(r, 1, 3), from(r, 1, 3))
		}
		s, e := contour.Print(g)
		is(t, "error of Print", e, api.OK)
		is(t, "the bytes of a string", len(s) <= 4000, true)
		back, i, e := contour.Parse(s)
		isGrid(t, "Parse of Print", back, g)
		is(t, "index", i, 0)
		is(t, "error of Parse", e, api.OK)
		b := []byte(s)
		b[r.Intn(len(b))] = "\n 0129-gr\xff"[r.Intn(10)]
		changed, _, e := contour.Parse(string(b))
		if e != api.OK {
			isGrid(t, "grid beside the error", changed, contour.Grid{})
			continue
		}
		again, e := contour.Print(changed)
		is(t, "error of Print of Parse", e, api.OK)
		is(t, "Print of Parse", again, string(b))
		parsed++
	}
	is(t, fmt.Sprint("many are parsed with a change: ", parsed), parsed > 300, true)
}
