package grid

import (
	"slices"
	"testing"

	"casement/api"
)

const side, things = api.MaxSide, api.MaxNodes

func ints(l ...int) []int { return l }

// points, sizes and rects are told as rows of numbers.
func points(l ...int) []api.Point {
	var all []api.Point
	for two := range slices.Chunk(l, 2) {
		all = append(all, api.Point{X: two[0], Y: two[1]})
	}
	return all
}

func sizes(l ...int) []api.Size {
	var all []api.Size
	for two := range slices.Chunk(l, 2) {
		all = append(all, api.Size{W: two[0], H: two[1]})
	}
	return all
}

func rect(x, y, w, h int) api.Rect {
	return api.Rect{At: api.Point{X: x, Y: y}, Size: api.Size{W: w, H: h}}
}

func rects(l ...int) []api.Rect {
	var all []api.Rect
	for four := range slices.Chunk(l, 4) {
		all = append(all, rect(four[0], four[1], four[2], four[3]))
	}
	return all
}

func repeated[T any](one T, n int) []T { return slices.Repeat([]T{one}, n) }

// P11.1: the chapter's examples, and the edges of rows.
func TestCells(t *testing.T) {
	for i, x := range []struct {
		spans   []int
		columns int
		want    []api.Point
	}{
		// the chapter's
		{ints(1, 2, 1), 3, points(0, 0, 1, 0, 0, 1)},
		{ints(2, 2, 5, 0), 3, points(0, 0, 0, 1, 0, 2, 0, 3)},
		{ints(3, 1), 0, points(0, 0, 0, 1)},
		// nothing
		{nil, 0, nil},
		{nil, 1, nil},
		{ints(), 64, nil},
		// 0 columns and a span of 0 count as 1
		{ints(0), 0, points(0, 0)},
		{ints(0, 1, 0), 0, points(0, 0, 0, 1, 0, 2)},
		{ints(0, 0, 0), 1, points(0, 0, 0, 1, 0, 2)},
		{ints(0, 0, 0), 2, points(0, 0, 1, 0, 0, 1)},
		{ints(0, 1, 0, 1), 4, points(0, 0, 1, 0, 2, 0, 3, 0)},
		// one below the columns, just as many, one more, many more
		{ints(2, 1), 3, points(0, 0, 2, 0)},
		{ints(3, 1), 3, points(0, 0, 0, 1)},
		{ints(4, 1), 3, points(0, 0, 0, 1)},
		{ints(64, 1), 3, points(0, 0, 0, 1)},
		{ints(1, 64, 1), 3, points(0, 0, 0, 1, 0, 2)},
		{ints(63, 1, 1), 64, points(0, 0, 63, 0, 0, 1)},
		{ints(64, 1), 64, points(0, 0, 0, 1)},
		{ints(64, 64), 63, points(0, 0, 0, 1)},
		{ints(64, 64, 1), 1, points(0, 0, 0, 1, 0, 2)},
		// one that just fits into its row, and one that does not by one column
		{ints(1, 3, 2, 2), 4, points(0, 0, 1, 0, 0, 1, 2, 1)},
		{ints(2, 3), 4, points(0, 0, 0, 1)},
		{ints(1, 1, 3), 4, points(0, 0, 1, 0, 0, 1)},
		{ints(3, 2, 3), 4, points(0, 0, 0, 1, 0, 2)},
		{ints(1, 64), 64, points(0, 0, 0, 1)},
		// nobody goes back to columns that were left
		{ints(2, 2, 1), 3, points(0, 0, 0, 1, 2, 1)},
		{ints(1, 3, 1, 1), 3, points(0, 0, 0, 1, 0, 2, 1, 2)},
	} {
		if got, e := Cells(x.spans, x.columns); !slices.Equal(got, x.want) || e != api.OK {
			t.Errorf("Cells %d: %v, %d", i, got, e)
		}
		if got := modelCells(x.spans, x.columns); !slices.Equal(got, x.want) {
			t.Errorf("the model of Cells %d: %v", i, got)
		}
	}
}

// P11.1, P11.2, P11.3, P11.4, P11.5: as many things as there may be.
func TestManyThings(t *testing.T) {
	for i, x := range []struct {
		span, columns int
		last          api.Point
	}{
		{0, 0, api.Point{X: 0, Y: 1023}},
		{1, 1, api.Point{X: 0, Y: 1023}},
		{1, 64, api.Point{X: 63, Y: 15}},
		{1, 63, api.Point{X: 15, Y: 16}},
		{32, 64, api.Point{X: 32, Y: 511}},
		{33, 64, api.Point{X: 0, Y: 1023}},
		{64, 64, api.Point{X: 0, Y: 1023}},
		{64, 5, api.Point{X: 0, Y: 1023}},
	} {
		spans := repeated(x.span, things)
		at, e := Cells(spans, x.columns)
		if e != api.OK || len(at) != things || at[things-1] != x.last {
			t.Errorf("Cells %d: %v, %d", i, at, e)
		}
		for _, size := range sizes(0, 0, 3, 2, 40, 16, side, side) {
			for _, gap := range ints(0, 1, 7, side) {
				for _, r := range rects(0, 0, 0, 0, -side, -side, 2*side, 2*side, -side, -side, 5, 9) {
					holds(t, spans, repeated(size, things), x.columns, gap, r)
				}
			}
		}
	}
}

// P11.2: the chapter's examples, and the edges of what columns lack.
func TestWidths(t *testing.T) {
	for i, x := range []struct {
		spans, least []int
		columns, gap int
		want         []int
	}{
		// the chapter's
		{ints(1, 1, 2), ints(3, 5, 9), 2, 0, ints(3, 6)},
		{ints(1, 1, 2), ints(3, 5, 9), 2, 4, ints(3, 5)},
		{ints(2), ints(7), 3, 1, ints(0, 6, 0)},
		// nothing: there are as many columns as ever
		{nil, nil, 0, 0, ints(0)},
		{nil, nil, 1, side, ints(0)},
		{ints(), ints(), 3, 2, ints(0, 0, 0)},
		{nil, nil, 64, 0, make([]int, 64)},
		// one column each: the greatest of all that stand there
		{ints(1, 1, 1, 1), ints(3, 5, 4, 2), 2, 9, ints(4, 5)},
		{ints(0, 0, 0), ints(3, 9, 4), 0, 9, ints(9)},
		{ints(1), ints(0), 1, 0, ints(0)},
		{ints(1), ints(side), 1, side, ints(side)},
		// a thing of two columns that lack nothing and more than that, just nothing, one, without a gap and with one
		{ints(1, 1, 2), ints(3, 5, 7), 2, 0, ints(3, 5)},
		{ints(1, 1, 2), ints(3, 5, 8), 2, 0, ints(3, 5)},
		{ints(1, 1, 2), ints(3, 5, 10), 2, 2, ints(3, 5)},
		{ints(1, 1, 2), ints(3, 5, 11), 2, 2, ints(3, 6)},
		{ints(2, 1, 1), ints(11, 3, 5), 2, 2, ints(3, 6)},
		// what several columns lack goes to the last one of them
		{ints(3), ints(10), 3, 0, ints(0, 0, 10)},
		{ints(3), ints(10), 3, 1, ints(0, 0, 8)},
		{ints(3, 1, 1), ints(10, 2, 3), 4, 1, ints(3, 0, 5, 2)},
		{ints(2, 2), ints(6, 7), 4, 1, ints(0, 5, 0, 6)},
		// a gap just as great as what it needs, and greater: nothing is lacking
		{ints(2), ints(4), 2, 3, ints(0, 1)},
		{ints(2), ints(4), 2, 4, ints(0, 0)},
		{ints(2), ints(4), 2, 5, ints(0, 0)},
		{ints(3), ints(9), 3, 4, ints(0, 0, 1)},
		{ints(3), ints(8), 3, 4, ints(0, 0, 0)},
		{ints(3), ints(4), 3, 4, ints(0, 0, 0)},
		{ints(64), ints(side), 64, side, make([]int, 64)},
		{ints(2), ints(side), 2, side - 1, ints(0, 1)},
		// columns that two things have in common, each one with others beside
		{ints(1, 2, 2, 1), ints(2, 6, 7, 1), 3, 0, ints(2, 5, 1)},
		{ints(1, 2, 2, 1), ints(2, 9, 7, 1), 3, 0, ints(2, 5, 4)},
		{ints(1, 2, 2, 1), ints(2, 9, 7, 1), 3, 1, ints(2, 4, 4)},
		{ints(1, 2, 3), ints(4, 4, 4), 3, 0, ints(4, 0, 4)},
		{ints(1, 2, 3), ints(4, 4, 9), 3, 0, ints(4, 0, 5)},
		{ints(2, 1, 1, 1, 1), ints(5, 0, 3, 0, 4), 3, 0, ints(3, 2, 4)},
		// more than there are columns: all of them, with the gaps between those
		{ints(5), ints(7), 2, 1, ints(0, 6)},
		{ints(64), ints(7), 1, 5, ints(7)},
		{ints(1, 64), ints(3, 7), 0, 5, ints(7)},
		{ints(4), ints(7), 3, 1, ints(0, 0, 5)},
		// columns that nobody uses stand behind all others; a row that leaves some does not tell about these
		{ints(1), ints(7), 3, 0, ints(7, 0, 0)},
		{ints(2, 2), ints(4, 5), 3, 0, ints(0, 5, 0)},
		{ints(1, 3), ints(4, 5), 3, 0, ints(4, 0, 1)},
		{ints(1, 2, 2), ints(4, 5, 6), 4, 2, ints(4, 0, 3, 0)},
		{ints(1, 2, 2), ints(4, 5, 9), 4, 2, ints(4, 3, 0, 0)},
	} {
		if got, e := Widths(x.spans, x.least, x.columns, x.gap); !slices.Equal(got, x.want) || e != api.OK {
			t.Errorf("Widths %d: %v, %d", i, got, e)
		}
		if got := modelWidths(x.spans, x.least, x.columns, x.gap); !slices.Equal(got, x.want) {
			t.Errorf("the model of Widths %d: %v", i, got)
		}
	}
	got, e := Widths(repeated(1, 64), repeated(side, 64), 64, side)
	if !slices.Equal(got, repeated(side, 64)) || e != api.OK {
		t.Errorf("the widest columns: %v, %d", got, e)
	}
}

// P11.3
func TestHeights(t *testing.T) {
	for i, x := range []struct {
		spans, least []int
		columns      int
		want         []int
	}{
		{ints(1, 1, 2), ints(3, 5, 9), 2, ints(5, 9)},
		{nil, nil, 0, nil},
		{ints(), ints(), 64, nil},
		{ints(1), ints(0), 3, ints(0)},
		{ints(0), ints(side), 0, ints(side)},
		{ints(1, 1, 1), ints(3, 5, 4), 1, ints(3, 5, 4)},
		{ints(1, 1, 1), ints(3, 5, 4), 3, ints(5)},
		// the greatest one first and last in its row
		{ints(1, 1, 1, 1, 1, 1), ints(9, 1, 2, 3, 4, 8), 3, ints(9, 8)},
		// a row that is not full
		{ints(2, 2, 1, 1), ints(7, 2, 6, 0), 3, ints(7, 6, 0)},
		{ints(1, 64, 1), ints(4, 3, 5), 2, ints(4, 3, 5)},
		{ints(1, 0, 1, 0), ints(0, 0, 0, 1), 2, ints(0, 1)},
	} {
		if got, e := Heights(x.spans, x.least, x.columns); !slices.Equal(got, x.want) || e != api.OK {
			t.Errorf("Heights %d: %v, %d", i, got, e)
		}
		if got := modelHeights(x.spans, x.least, x.columns); !slices.Equal(got, x.want) {
			t.Errorf("the model of Heights %d: %v", i, got)
		}
	}
}

// P11.4: the chapter's examples, and the edges of sums; what would be above MaxSide is ErrSize.
func TestNeed(t *testing.T) {
	three := ints(1, 1, 1)
	for i, x := range []struct {
		spans        []int
		sizes        []api.Size
		columns, gap int
		want         api.Size
		e            api.Errno
	}{
		// the chapter's
		{ints(1, 1, 2), sizes(3, 1, 5, 2, 9, 1), 2, 1, api.Size{W: 9, H: 4}, api.OK},
		{ints(1), sizes(4, 2), 5, 3, api.Size{W: 4, H: 2}, api.OK},
		{ints(1, 1), sizes(16384, 0, 1, 0), 2, 0, api.Size{}, api.ErrSize},
		// nothing: no gap either
		{nil, nil, 1, 1, api.Size{}, api.OK},
		{nil, nil, 0, 0, api.Size{}, api.OK},
		{ints(), sizes(), 64, side, api.Size{}, api.OK},
		// gaps between the used columns and between rows, not ahead of the first one, nor behind the last one
		{ints(1), sizes(0, 0), 1, side, api.Size{}, api.OK},
		{ints(1, 1), sizes(0, 0, 0, 0), 2, 5, api.Size{W: 5}, api.OK},
		{ints(1, 1), sizes(0, 0, 0, 0), 1, 5, api.Size{H: 5}, api.OK},
		{ints(1, 1), sizes(2, 3, 4, 5), 64, 7, api.Size{W: 13, H: 5}, api.OK},
		{ints(1, 1), sizes(2, 3, 4, 5), 1, 7, api.Size{W: 4, H: 15}, api.OK},
		{ints(2, 2), sizes(2, 3, 4, 5), 3, 7, api.Size{W: 7, H: 15}, api.OK},
		{ints(1, 3), sizes(2, 3, 4, 5), 3, 1, api.Size{W: 4, H: 9}, api.OK},
		{ints(1, 3), sizes(2, 3, 3, 5), 3, 1, api.Size{W: 4, H: 9}, api.OK},
		{ints(64), sizes(4, 5), 3, 7, api.Size{W: 14, H: 5}, api.OK},
		{ints(64), sizes(4, 5), 1, 7, api.Size{W: 4, H: 5}, api.OK},
		// just MaxSide, and one more: of one thing, of several, of gaps, across and downward
		{ints(1), sizes(side, side), 1, side, api.Size{W: side, H: side}, api.OK},
		{three, sizes(side-3, 1, 1, 1, 2, 1), 3, 0, api.Size{W: side, H: 1}, api.OK},
		{three, sizes(side-3, 1, 1, 1, 3, 1), 3, 0, api.Size{}, api.ErrSize},
		{three, sizes(side-7, 1, 1, 1, 2, 1), 3, 2, api.Size{W: side, H: 1}, api.OK},
		{three, sizes(side-6, 1, 1, 1, 2, 1), 3, 2, api.Size{}, api.ErrSize},
		{three, sizes(1, side-3, 1, 1, 1, 2), 1, 0, api.Size{W: 1, H: side}, api.OK},
		{three, sizes(1, side-3, 1, 1, 1, 3), 1, 0, api.Size{}, api.ErrSize},
		{three, sizes(1, side-7, 1, 1, 1, 2), 1, 2, api.Size{W: 1, H: side}, api.OK},
		{three, sizes(1, side-6, 1, 1, 1, 2), 1, 2, api.Size{}, api.ErrSize},
		{three, sizes(0, 0, 0, 0, 0, 0), 3, side / 2, api.Size{W: side}, api.OK},
		{three, sizes(0, 0, 0, 0, 1, 0), 3, side / 2, api.Size{}, api.ErrSize},
		{three, sizes(0, 0, 0, 0, 0, 0), 3, side/2 + 1, api.Size{}, api.ErrSize},
		{three, sizes(0, 0, 0, 0, 0, 0), 1, side / 2, api.Size{H: side}, api.OK},
		{three, sizes(0, 0, 0, 0, 0, 1), 1, side / 2, api.Size{}, api.ErrSize},
		{three, sizes(0, 0, 0, 0, 0, 0), 1, side/2 + 1, api.Size{}, api.ErrSize},
		{ints(1, 1), sizes(0, 0, 0, 0), 2, side, api.Size{W: side}, api.OK},
		{three, sizes(0, 0, 0, 0, 0, 0), 3, side, api.Size{}, api.ErrSize},
		{ints(1, 2), sizes(1, 0, side, 0), 3, 0, api.Size{}, api.ErrSize},
		{ints(1, 2), sizes(1, 0, side-1, 0), 3, 0, api.Size{W: side}, api.OK},
		// both at once
		{ints(2, 1, 1), sizes(side, side-4, 1, 1, 1, 2), 2, 2, api.Size{W: side, H: side}, api.OK},
		{ints(2, 1, 1), sizes(side, side, side, 1, 1, 2), 2, 2, api.Size{}, api.ErrSize},
	} {
		if got, e := Need(x.spans, x.sizes, x.columns, x.gap); got != x.want || e != x.e {
			t.Errorf("Need %d: %v, %d", i, got, e)
		}
	}
}

// P11.5: the chapter's examples, and rectangles of all sorts.
func TestRects(t *testing.T) {
	three, theirs := ints(1, 1, 2), sizes(3, 1, 5, 2, 9, 1) // with a gap of 1: 9 wide, 4 high
	for i, x := range []struct {
		spans        []int
		sizes        []api.Size
		columns, gap int
		r            api.Rect
		want         []api.Rect
		e            api.Errno
	}{
		// the chapter's
		{three, theirs, 2, 1, rect(0, 0, 13, 6), rects(0, 0, 5, 3, 6, 0, 7, 3, 0, 4, 13, 2), api.OK},
		{ints(1), sizes(4, 2), 1, 0, rect(1, 1, 2, 2), rects(1, 1, 4, 2), api.OK},
		{ints(1), sizes(4, 2), 1, 0, rect(16383, 0, 1, 1), nil, api.ErrSize},
		// nothing
		{nil, nil, 0, 0, rect(0, 0, 0, 0), nil, api.OK},
		{ints(), sizes(), 64, side, rect(-side, -side, 2*side, 2*side), nil, api.OK},
		{nil, nil, 2, 1, rect(side, side, 0, 0), nil, api.OK},
		// as great as they need, one more in either direction: the first column, the first row get it
		{three, theirs, 2, 1, rect(0, 0, 9, 4), rects(0, 0, 3, 2, 4, 0, 5, 2, 0, 3, 9, 1), api.OK},
		{three, theirs, 2, 1, rect(0, 0, 10, 4), rects(0, 0, 4, 2, 5, 0, 5, 2, 0, 3, 10, 1), api.OK},
		{three, theirs, 2, 1, rect(0, 0, 9, 5), rects(0, 0, 3, 3, 4, 0, 5, 3, 0, 4, 9, 1), api.OK},
		{three, theirs, 2, 1, rect(-7, 3, 11, 7), rects(-7, 3, 4, 4, -2, 3, 6, 4, -7, 8, 11, 2), api.OK},
		// less in one direction, in the other one, in both; nothing at all
		{three, theirs, 2, 1, rect(2, 3, 8, 6), rects(2, 3, 3, 3, 6, 3, 5, 3, 2, 7, 9, 2), api.OK},
		{three, theirs, 2, 1, rect(2, 3, 13, 3), rects(2, 3, 5, 2, 8, 3, 7, 2, 2, 6, 13, 1), api.OK},
		{three, theirs, 2, 1, rect(2, 3, 8, 3), rects(2, 3, 3, 2, 6, 3, 5, 2, 2, 6, 9, 1), api.OK},
		{three, theirs, 2, 1, rect(2, 3, 0, 6), rects(2, 3, 3, 3, 6, 3, 5, 3, 2, 7, 9, 2), api.OK},
		{three, theirs, 2, 1, rect(2, 3, 13, 0), rects(2, 3, 5, 2, 8, 3, 7, 2, 2, 6, 13, 1), api.OK},
		{three, theirs, 2, 1, rect(2, 3, 0, 0), rects(2, 3, 3, 2, 6, 3, 5, 2, 2, 6, 9, 1), api.OK},
		// gaps greater than all room
		{three, theirs, 2, 50, rect(0, 0, 13, 6), rects(0, 0, 3, 2, 53, 0, 5, 2, 0, 52, 58, 1), api.OK},
		// columns that nobody uses share nothing; those that a row leaves do
		{ints(1, 1), sizes(2, 1, 2, 1), 64, 1, rect(0, 0, 11, 1), rects(0, 0, 5, 1, 6, 0, 5, 1), api.OK},
		{ints(2, 2), sizes(2, 1, 2, 1), 3, 0, rect(0, 0, 10, 2), rects(0, 0, 10, 1, 0, 1, 10, 1), api.OK},
		{ints(1, 3), sizes(2, 1, 2, 1), 3, 0, rect(0, 0, 11, 2), rects(0, 0, 5, 1, 0, 1, 11, 1), api.OK},
		{ints(1, 3), sizes(2, 1, 2, 1), 3, 1, rect(0, 0, 10, 3), rects(0, 0, 4, 1, 0, 2, 10, 1), api.OK},
		// of several columns, ahead, in the middle, behind: the gaps between them are its own, those beside it are not
		{ints(2, 1, 1, 2), sizes(0, 0, 0, 0, 0, 0, 0, 0), 3, 2, rect(0, 0, 13, 10), rects(0, 0, 8, 4, 10, 0, 3, 4, 0, 6, 3, 4, 5, 6, 8, 4), api.OK},
		{ints(1, 2, 1), sizes(1, 1, 1, 1, 1, 1), 4, 3, rect(0, 0, 20, 1), rects(0, 0, 4, 1, 7, 0, 7, 1, 17, 0, 3, 1), api.OK},
		{ints(64, 0), sizes(1, 1, 1, 1), 2, 1, rect(0, 0, 5, 3), rects(0, 0, 5, 1, 0, 2, 3, 1), api.OK},
		{ints(9, 9), sizes(1, 1, 1, 1), 0, 1, rect(0, 0, 5, 4), rects(0, 0, 5, 2, 0, 3, 5, 1), api.OK},
		// the greatest rectangle
		{ints(1, 1), sizes(1, 1, 1, 1), 2, side, rect(-side, -side, 2*side, 2*side), rects(-side, -side, side/2, 2*side, side/2, -side, side/2, 2*side), api.OK},
		{ints(1), sizes(side, side), 1, 0, rect(-side, -side, 2*side, 2*side), rects(-side, -side, 2*side, 2*side), api.OK},
		{ints(1, 1), sizes(side, side, side, side), 2, 0, rect(-side, -side, 0, 0), rects(-side, -side, side, side, 0, -side, side, side), api.OK},
		// those without a place stay as they are told
		{ints(1), sizes(0, 0), 1, 0, rect(3, 4, 0, 0), rects(3, 4, 0, 0), api.OK},
		{ints(1), sizes(0, 0), 1, 0, rect(3, 4, 0, 7), rects(3, 4, 0, 7), api.OK},
		{ints(1), sizes(5, 0), 1, 0, rect(3, 4, 2, 0), rects(3, 4, 5, 0), api.OK},
		{ints(1, 1), sizes(0, 1, 0, 0), 2, 3, rect(-5, -6, 3, 1), rects(-5, -6, 0, 1, -2, -6, 0, 1), api.OK},
		{ints(1, 1), sizes(0, 0, 0, 0), 2, 1, rect(side-1, side, 0, 0), rects(side-1, side, 0, 0, side, side, 0, 0), api.OK},
		{ints(1, 1), sizes(0, 0, 0, 0), 1, 1, rect(side, side-1, 0, 0), rects(side, side-1, 0, 0, side, side, 0, 0), api.OK},
		// up to the last place, and one beyond it: one that has places, one that has none; the last one, the first one
		{ints(1), sizes(4, 2), 1, 0, rect(side-4, 0, 1, 1), rects(side-4, 0, 4, 2), api.OK},
		{ints(1), sizes(4, 2), 1, 0, rect(side-3, 0, 1, 1), nil, api.ErrSize},
		{ints(1), sizes(4, 2), 1, 0, rect(0, side-2, 1, 1), rects(0, side-2, 4, 2), api.OK},
		{ints(1), sizes(4, 2), 1, 0, rect(0, side-1, 1, 1), nil, api.ErrSize},
		{ints(1, 1), sizes(0, 0, 0, 0), 2, 1, rect(side, 0, 0, 0), nil, api.ErrSize},
		{ints(1, 1), sizes(0, 0, 0, 0), 1, 1, rect(0, side, 0, 0), nil, api.ErrSize},
		{ints(2, 1), sizes(4, 1, 1, 1), 2, 0, rect(side-3, 0, 1, 1), nil, api.ErrSize},
		{ints(2, 1), sizes(4, 1, 1, 1), 2, 0, rect(side-4, 0, 1, 1), rects(side-4, 0, 4, 1, side-4, 1, 1, 1), api.OK},
		{ints(1, 1), sizes(side, 1, side, 1), 2, 0, rect(-side, 0, 5, 1), rects(-side, 0, side, 1, 0, 0, side, 1), api.OK},
		{ints(1, 1), sizes(side, 1, side, 1), 2, 1, rect(-side, 0, 5, 1), nil, api.ErrSize},
		{repeated(1, 3), repeated(api.Size{W: side, H: side}, 3), 1, 0, rect(-side, -side, 1, 1), nil, api.ErrSize},
		{repeated(1, 3), repeated(api.Size{W: side, H: side}, 3), 3, side, rect(-side, -side, 1, 1), nil, api.ErrSize},
	} {
		if got, e := Rects(x.spans, x.sizes, x.columns, x.gap, x.r); !slices.Equal(got, x.want) || e != x.e {
			t.Errorf("Rects %d: %v, %d", i, got, e)
		}
		if got, e := modelRects(x.spans, x.sizes, x.columns, x.gap, x.r); !slices.Equal(got, x.want) || e != x.e {
			t.Errorf("the model of Rects %d: %v, %d", i, got, e)
		}
	}
}
