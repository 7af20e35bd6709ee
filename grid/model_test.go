package grid

import (
	"math/rand"
	"slices"
	"testing"

	"casement/api"
)

// modelSpan is how many columns a thing has of so many.
func modelSpan(span, columns int) int {
	switch {
	case span == 0 || columns == 0:
		return 1
	case span > columns:
		return columns
	}
	return span
}

// modelCells numbers all cells of all rows through, and goes on one by one until the thing does not reach over its row's end.
func modelCells(spans []int, columns int) []api.Point {
	across := columns
	if columns == 0 {
		across = 1
	}
	var at []api.Point
	next := 0
	for _, span := range spans {
		k := modelSpan(span, columns)
		for next/across != (next+k-1)/across {
			next++
		}
		at = append(at, api.Point{X: next % across, Y: next / across})
		next += k
	}
	return at
}

// modelWidths goes over the edges from the left: each hangs on those left of it alone.
func modelWidths(spans, least []int, columns, gap int) []int {
	at := modelCells(spans, columns)
	edges := []int{0}
	for edge := 1; edge <= max(columns, 1); edge++ {
		e := edges[edge-1]
		for i := range spans {
			k := modelSpan(spans[i], columns)
			if at[i].X+k == edge {
				e = max(e, edges[at[i].X]+least[i]-(k-1)*gap)
			}
		}
		edges = append(edges, e)
	}
	var widths []int
	for i := 1; i < len(edges); i++ {
		widths = append(widths, edges[i]-edges[i-1])
	}
	return widths
}

func modelHeights(spans, least []int, columns int) []int {
	var heights []int
	for i, at := range modelCells(spans, columns) {
		if at.Y == len(heights) {
			heights = append(heights, 0)
		}
		heights[at.Y] = max(heights[at.Y], least[i])
	}
	return heights
}

func modelUsed(spans []int, columns int) int {
	used := 0
	for i, at := range modelCells(spans, columns) {
		used = max(used, at.X+modelSpan(spans[i], columns))
	}
	return used
}

func split(l []api.Size) (wide, high []int) {
	for _, s := range l {
		wide, high = append(wide, s.W), append(high, s.H)
	}
	return wide, high
}

func total(l []int) int {
	sum := 0
	for _, n := range l {
		sum += n
	}
	return sum
}

// modelNeed is what Need would answer, also where that is above MaxSide.
func modelNeed(spans []int, l []api.Size, columns, gap int) api.Size {
	if len(spans) == 0 {
		return api.Size{}
	}
	wide, high := split(l)
	heights := modelHeights(spans, high, columns)
	return api.Size{
		W: total(modelWidths(spans, wide, columns, gap)) + gap*(modelUsed(spans, columns)-1),
		H: total(heights) + gap*(len(heights)-1),
	}
}

// modelEnds are the beginnings and the ends of lines whose room more than they need is shared out alike.
func modelEnds(least []int, gap, room int) (from, to []int) {
	left := max(room-gap*(len(least)-1), 0) - total(least)
	next := 0
	for i, n := range least {
		if left > 0 {
			n += left / len(least)
			if i < left%len(least) {
				n++
			}
		}
		from, to = append(from, next), append(to, next+n)
		next += n + gap
	}
	return from, to
}

func modelRects(spans []int, l []api.Size, columns, gap int, r api.Rect) ([]api.Rect, api.Errno) {
	wide, high := split(l)
	lefts, rights := modelEnds(modelWidths(spans, wide, columns, gap)[:modelUsed(spans, columns)], gap, r.Size.W)
	tops, bottoms := modelEnds(modelHeights(spans, high, columns), gap, r.Size.H)
	var all []api.Rect
	for i, at := range modelCells(spans, columns) {
		last := at.X + modelSpan(spans[i], columns) - 1
		x, y := r.At.X+lefts[at.X], r.At.Y+tops[at.Y]
		endX, endY := r.At.X+rights[last], r.At.Y+bottoms[at.Y]
		if endX > side || endY > side {
			return nil, api.ErrSize
		}
		all = append(all, rect(x, y, endX-x, endY-y))
	}
	return all, api.OK
}

// holds asks all calls for what the models answer, and for what follows.
func holds(t *testing.T, spans []int, l []api.Size, columns, gap int, r api.Rect) {
	t.Helper()
	wide, high := split(l)
	at, e := Cells(spans, columns)
	if want := modelCells(spans, columns); !slices.Equal(at, want) || e != api.OK {
		t.Fatalf("Cells(%v, %d): %v, %d; %v", spans, columns, at, e, want)
	}
	widths, e := Widths(spans, wide, columns, gap)
	if want := modelWidths(spans, wide, columns, gap); !slices.Equal(widths, want) || e != api.OK {
		t.Fatalf("Widths(%v, %v, %d, %d): %v, %d; %v", spans, wide, columns, gap, widths, e, want)
	}
	heights, e := Heights(spans, high, columns)
	if want := modelHeights(spans, high, columns); !slices.Equal(heights, want) || e != api.OK {
		t.Fatalf("Heights(%v, %v, %d): %v, %d; %v", spans, high, columns, heights, e, want)
	}
	need, wantNeed, wantE := api.Size{}, modelNeed(spans, l, columns, gap), api.OK
	if wantNeed.W > side || wantNeed.H > side {
		wantE = api.ErrSize
	} else {
		need = wantNeed
	}
	if got, e := Need(spans, l, columns, gap); got != need || e != wantE {
		t.Fatalf("Need(%v, %v, %d, %d): %v, %d; %v, %d", spans, l, columns, gap, got, e, need, wantE)
	}
	got, e := Rects(spans, l, columns, gap, r)
	if want, wantE := modelRects(spans, l, columns, gap, r); !slices.Equal(got, want) || e != wantE {
		t.Fatalf("Rects(%v, %v, %d, %d, %v): %v, %d; %v, %d", spans, l, columns, gap, r, got, e, want, wantE)
	}
	cellsFollow(t, spans, columns, at)
	if !allFindRoom(spans, wide, columns, gap, at, widths) {
		t.Fatalf("Widths(%v, %v, %d, %d): %v: not all find room", spans, wide, columns, gap, widths)
	}
	if r.Size.W >= wantNeed.W && r.Size.H >= wantNeed.H {
		rectsFollow(t, l, gap, r, at, got)
	}
}

// cellsFollow: no two things' cells lie over one another, all lie in the grid, rows rise, and nobody leaves a column free that it would find room in.
func cellsFollow(t *testing.T, spans []int, columns int, at []api.Point) {
	t.Helper()
	taken := map[api.Point]int{}
	covered := map[int]int{}
	row, next := 0, 0
	for i, p := range at {
		k := modelSpan(spans[i], columns)
		if p.X < 0 || p.X+k > max(columns, 1) {
			t.Fatalf("Cells(%v, %d): %v: %d reaches out of the grid", spans, columns, at, i)
		}
		same, below := p == (api.Point{X: next, Y: row}), p == (api.Point{Y: row + 1})
		if !same && !below || below && next+k <= max(columns, 1) {
			t.Fatalf("Cells(%v, %d): %v: %d does not stand behind the one ahead", spans, columns, at, i)
		}
		for j := range k {
			taken[api.Point{X: p.X + j, Y: p.Y}]++
			covered[p.X+j]++
		}
		row, next = p.Y, p.X+k
	}
	for p, n := range taken {
		if n != 1 {
			t.Fatalf("Cells(%v, %d): %v: %d stand at %v", spans, columns, at, n, p)
		}
	}
	if used := modelUsed(spans, columns); len(covered) != used {
		t.Fatalf("Cells(%v, %d): %v: of %d used columns %d have a thing", spans, columns, at, used, len(covered))
	}
}

func allFindRoom(spans, least []int, columns, gap int, at []api.Point, widths []int) bool {
	for i, p := range at {
		k := modelSpan(spans[i], columns)
		if total(widths[p.X:p.X+k])+gap*(k-1) < least[i] {
			return false
		}
	}
	return true
}

// rectsFollow: in a rectangle as great as they need all lie in it, none over another one, each at least as great as its size, with the gap between those beside and below one another.
func rectsFollow(t *testing.T, l []api.Size, gap int, r api.Rect, at []api.Point, got []api.Rect) {
	t.Helper()
	if len(got) != len(at) {
		t.Fatalf("%d rectangles of %d things", len(got), len(at))
	}
	for i, one := range got {
		if one.At.X < r.At.X || one.At.Y < r.At.Y || one.At.X+one.Size.W > r.At.X+r.Size.W || one.At.Y+one.Size.H > r.At.Y+r.Size.H {
			t.Fatalf("%v in %v: %d lies beyond it", got, r, i)
		}
		if one.Size.W < l[i].W || one.Size.H < l[i].H {
			t.Fatalf("%v of %v: %d is too small", got, l, i)
		}
		for j, other := range got[:i] {
			beside := at[i].Y == at[j].Y && one.At.X >= other.At.X+other.Size.W+gap && one.At.Y == other.At.Y && one.Size.H == other.Size.H
			below := at[i].Y > at[j].Y && one.At.Y >= other.At.Y+other.Size.H+gap
			if !beside && !below {
				t.Fatalf("%v with the gap %d: %d and %d do not lie apart", got, gap, j, i)
			}
		}
	}
}

// thrown is n things with spans up to wide and sizes up to great.
func thrown(r *rand.Rand, n, wide, great int) ([]int, []api.Size) {
	var spans []int
	var l []api.Size
	for range n {
		spans = append(spans, r.Intn(wide+1))
		l = append(l, api.Size{W: r.Intn(great + 1), H: r.Intn(great + 1)})
	}
	return spans, l
}

// P11.1, P11.2, P11.3, P11.4, P11.5, P11.7, P11.8
func TestThrown(t *testing.T) {
	r := rand.New(rand.NewSource(110))
	for range 6000 {
		columns, gap := r.Intn(7), r.Intn(4)
		spans, l := thrown(r, r.Intn(12), 1+r.Intn(5), 1+r.Intn(20))
		need := modelNeed(spans, l, columns, gap)
		x, y := r.Intn(41)-20, r.Intn(41)-20
		for range 3 { // about what they need, so that all sorts come
			w, h := max(need.W+r.Intn(13)-4, 0), max(need.H+r.Intn(13)-4, 0)
			holds(t, spans, l, columns, gap, rect(x, y, w, h))
		}
		holds(t, spans, l, columns, gap, rect(x, y, need.W, need.H))
		holds(t, spans, l, columns, gap, rect(x, y, r.Intn(100), r.Intn(100)))
		// so near to the last place that it comes out just so, or not
		holds(t, spans, l, columns, gap, rect(side-r.Intn(need.W+2), side-need.H-r.Intn(2), 0, 0))
		holds(t, spans, l, columns, gap, rect(side-need.W-r.Intn(2), side-r.Intn(need.H+2), 0, 0))
	}
}

// P11.1, P11.2, P11.3, P11.4, P11.5, P11.7, P11.8: many columns and things, with numbers up to the ends.
func TestThrownGreat(t *testing.T) {
	r := rand.New(rand.NewSource(111))
	for range 200 {
		for _, great := range ints(1, 40, 700, side) {
			spans, l := thrown(r, r.Intn(120), ints(1, 3, 20, 64)[r.Intn(4)], great)
			columns, gap := r.Intn(65), r.Intn(great+1)
			x, y := r.Intn(2*side+1)-side, r.Intn(2*side+1)-side
			holds(t, spans, l, columns, gap, rect(x, y, r.Intn(side-x+1), r.Intn(side-y+1)))
			holds(t, spans, l, columns, gap%5, rect(-side, -side, 2*side, 2*side))
			holds(t, spans, l, columns, 0, rect(-side, -side, 2*side-r.Intn(200), r.Intn(2*side)))
		}
	}
}

// everyWidths are all lists of so many widths below most.
func everyWidths(columns, most int) [][]int {
	if columns == 0 {
		return [][]int{nil}
	}
	var all [][]int
	for _, ahead := range everyWidths(columns-1, most) {
		for w := range most {
			all = append(all, append(slices.Clone(ahead), w))
		}
	}
	return all
}

// P11.7: of all widths in which all find room, with small numbers, none are less wide up to any column than those of Widths.
func TestNoWidthsAreLess(t *testing.T) {
	r := rand.New(rand.NewSource(112))
	better := 0 // widths that some column has less of than in Widths: they pay for it ahead of it
	for range 800 {
		columns, gap := 1+r.Intn(4), r.Intn(4)
		spans, l := thrown(r, 1+r.Intn(6), 4, 5)
		wide, _ := split(l)
		at, _ := Cells(spans, columns)
		widths, e := Widths(spans, wide, columns, gap)
		if e != api.OK || !allFindRoom(spans, wide, columns, gap, at, widths) {
			t.Fatalf("Widths(%v, %v, %d, %d): %v, %d", spans, wide, columns, gap, widths, e)
		}
		for _, other := range everyWidths(columns, 7) {
			if !allFindRoom(spans, wide, columns, gap, at, other) {
				continue
			}
			for i := range columns {
				if total(other[:i+1]) < total(widths[:i+1]) {
					t.Fatalf("Widths(%v, %v, %d, %d): %v; %v are less up to the column %d", spans, wide, columns, gap, widths, other, i)
				}
				if other[i] < widths[i] {
					better++
				}
			}
		}
	}
	if better == 0 {
		t.Error("no other widths were held against them")
	}
}

// P11.1, P11.2, P11.4: of three things, all there are with small spans and numbers.
func TestTriedOneByOne(t *testing.T) {
	for n := range 4 * 4 * 4 * 3 * 3 * 3 {
		spans := ints(n%4, n/4%4, n/16%4)
		n /= 64
		l := sizes(2*(n%3), n/9%3, 2*(n/3%3), n%3, 2*(n/9%3), n/3%3)
		for columns := range 5 {
			for gap := range 3 {
				holds(t, spans, l, columns, gap, rect(1, 2, 9, 5))
			}
		}
	}
}
