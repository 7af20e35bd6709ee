package damage

import (
	"slices"
	"testing"

	"casement/api"
	"casement/cells"
)

// dyed is a screen of cells that are all alike, and none of which is bare.
func dyed(s api.Size) api.Screen {
	return api.Screen{Size: s, Cells: slices.Repeat([]api.Cell{{Rune: 'z', Colour: white, Back: blue}}, s.W*s.H)}
}

// with is a screen with cells changed, by their places.
func with(s api.Screen, l map[api.Point]api.Cell) api.Screen {
	s.Cells = slices.Clone(s.Cells)
	for p, c := range l {
		s.Cells[p.Y*s.Size.W+p.X] = c
	}
	return s
}

var bare = api.Cell{Rune: ' '}

// P17.2: bare cells where nothing is drawn, whatever was there.
func TestMendNothingDrawn(t *testing.T) {
	s := dyed(size(3, 2))
	mended(t, s, nil, nil, s)
	mended(t, s, nil, rects(), s)
	mended(t, s, of(fill(0, 0, 9, 9)), nil, s)
	mended(t, s, nil, rects(rect(1, 0, 1, 1)), with(s, map[api.Point]api.Cell{point(1, 0): bare}))
	mended(t, s, of(clip(0, 0, 9, 9), open()), rects(rect(0, 0, 3, 2)), blanks(t, s.Size))
	// what is drawn elsewhere stays undrawn
	mended(t, s, of(fill(0, 0, 1, 2), fill(2, 0, 1, 2)), rects(rect(1, 0, 1, 2)), with(s, map[api.Point]api.Cell{point(1, 0): bare, point(1, 1): bare}))
}

// P17.2: each kind of strokes, in clips, one upon the other, in the places of r alone.
func TestMendDraws(t *testing.T) {
	s := dyed(size(4, 3))
	l := slices.Concat(of(fill(0, 0, 4, 2)), within(rect(0, 0, 3, 3), frame(0, 0, 4, 3), write(1, 1, 3, 1, "abc")))
	mended(t, s, l, rects(rect(0, 0, 4, 3)), screenOf(t, s.Size, l...))
	mended(t, s, l, rects(rect(2, 0, 2, 2)), with(s, map[api.Point]api.Cell{
		point(2, 0): {Rune: 0x2500, Colour: white, Back: red},
		point(3, 0): {Rune: ' ', Back: red},
		point(2, 1): {Rune: 'b', Colour: white, Back: red},
		point(3, 1): {Rune: ' ', Back: red},
	}))
	mended(t, s, l, rects(rect(0, 2, 1, 1), rect(3, 2, 1, 1)), with(s, map[api.Point]api.Cell{point(0, 2): {Rune: 0x2514, Colour: white}, point(3, 2): bare}))
}

// P17.2: colours that are half there lie over bare cells, not over the screen's own.
func TestMendUponBareCells(t *testing.T) {
	s := dyed(size(3, 1))
	half := api.Colour{R: 255, A: 128}
	mended(t, s, of(in(half, fill(0, 0, 3, 1))), rects(rect(1, 0, 1, 1)), with(s, map[api.Point]api.Cell{point(1, 0): {Rune: ' ', Colour: half, Back: half}}))
	mended(t, s, of(in(half, write(0, 0, 3, 1, "abc"))), rects(rect(1, 0, 1, 1)), with(s, map[api.Point]api.Cell{point(1, 0): {Rune: 'b', Colour: half}}))
	mended(t, s, of(in(half, frame(0, 0, 3, 1))), rects(rect(1, 0, 1, 1)), with(s, map[api.Point]api.Cell{point(1, 0): {Rune: 0x2500, Colour: half}}))
	// mended again it is the same, since what was there does not count
	l := of(in(half, fill(0, 0, 3, 1)), in(half, write(0, 0, 3, 1, "abc")))
	once, e := Mend(s, l, rects(rect(0, 0, 2, 1)))
	if e != api.OK {
		t.Fatal(e)
	}
	mended(t, once, l, rects(rect(0, 0, 2, 1)), once)
	mended(t, once, l, rects(rect(0, 0, 3, 1)), screenOf(t, s.Size, l...))
}

// P17.2: rectangles over one another, empty ones, such as reach beyond the screen or lie there.
func TestMendRectangles(t *testing.T) {
	s := dyed(size(3, 3))
	l := of(in(thin, fill(0, 0, 3, 3)))
	now := screenOf(t, s.Size, l...)
	c := now.Cells[0]
	all := rect(0, 0, 3, 3)
	for _, one := range []struct {
		r    []api.Rect
		want []api.Point
	}{
		{rects(rect(1, 1, 0, 2), rect(1, 1, 2, 0), rect(2, 2, 0, 0), api.Rect{}), nil},
		{rects(rect(side, side, 0, 0), rect(-side, -side, 0, 0)), nil},
		{rects(rect(3, 0, 9, 3), rect(0, 3, 3, 9), rect(-4, 0, 4, 3), rect(0, -4, 3, 4), rect(3, 3, 1, 1), rect(-1, -1, 1, 1)), nil},
		{rects(rect(side-1, side-1, 1, 1), rect(-side, -side, side, side)), nil},
		{rects(rect(-1, -1, 2, 2)), []api.Point{point(0, 0)}},
		{rects(rect(2, 2, 9, 9)), []api.Point{point(2, 2)}},
		{rects(rect(2, -9, 9, 10)), []api.Point{point(2, 0)}},
		{rects(rect(-side, 1, 2*side, 1)), []api.Point{point(0, 1), point(1, 1), point(2, 1)}},
		{rects(rect(1, -side, 1, 2*side)), []api.Point{point(1, 0), point(1, 1), point(1, 2)}},
		// over one another, in any order, twice
		{rects(rect(0, 0, 2, 2), rect(1, 1, 1, 2)), []api.Point{point(0, 0), point(1, 0), point(0, 1), point(1, 1), point(1, 2)}},
		{rects(rect(1, 1, 1, 2), rect(0, 0, 2, 2), rect(0, 0, 2, 2), rect(1, 1, 1, 1)), []api.Point{point(0, 0), point(1, 0), point(0, 1), point(1, 1), point(1, 2)}},
		{rects(rect(2, 2, 1, 1), rect(5, 5, 1, 1), rect(0, 0, 1, 1), rect(0, 0, 0, 0)), []api.Point{point(0, 0), point(2, 2)}},
	} {
		want := map[api.Point]api.Cell{}
		for _, p := range one.want {
			want[p] = c
		}
		mended(t, s, l, one.r, with(s, want))
	}
	mended(t, s, l, rects(rect(-side, -side, 2*side, 2*side)), now)
	mended(t, s, l, rects(all, all), now)
}

// P17.2: screens of no cells, of one, of one row and of one column.
func TestMendSmallScreens(t *testing.T) {
	l, all := of(fill(0, 0, 9, 9), write(0, 0, 9, 9, "abc\nd\ne")), rects(rect(-2, -2, 99, 99), rect(0, 0, 1, 1))
	for _, s := range []api.Size{size(0, 0), size(0, 5), size(5, 0), size(0, side), size(side, 0), size(1, 1), size(5, 1), size(1, 5)} {
		mended(t, dyed(s), l, all, screenOf(t, s, l...))
		mended(t, dyed(s), nil, all, blanks(t, s))
		mended(t, dyed(s), l, nil, dyed(s))
	}
}

// halves are the two cells of a wide rune.
func halves(c, back api.Colour) (left, right api.Cell) {
	return api.Cell{Rune: 0x4e00, Colour: c, Back: back, Wide: true}, api.Cell{Rune: 0x4e00, Colour: c, Back: back, Tail: true}
}

// P17.2: of wide runes a half is mended, where the other one lies beside r; and a half of the screen stays where the other one is mended.
func TestMendHalves(t *testing.T) {
	left, right := halves(white, none)
	s := dyed(size(4, 1))
	l := of(write(1, 0, 2, 1, "\u4e00"))
	mended(t, s, l, rects(rect(1, 0, 2, 1)), with(s, map[api.Point]api.Cell{point(1, 0): left, point(2, 0): right}))
	mended(t, s, l, rects(rect(0, 0, 2, 1)), with(s, map[api.Point]api.Cell{point(0, 0): bare, point(1, 0): left}))
	mended(t, s, l, rects(rect(2, 0, 2, 1)), with(s, map[api.Point]api.Cell{point(2, 0): right, point(3, 0): bare}))
	mended(t, s, l, rects(rect(0, 0, 1, 1), rect(3, 0, 1, 1)), with(s, map[api.Point]api.Cell{point(0, 0): bare, point(3, 0): bare}))
	// at the screen's edges
	mended(t, s, of(write(-1, 0, 9, 1, "\u4e00"), write(3, 0, 9, 1, "\u4e00")), rects(rect(0, 0, 1, 1), rect(3, 0, 1, 1)), with(s, map[api.Point]api.Cell{point(0, 0): right, point(3, 0): left}))
	// halves that the screen has
	oldLeft, oldRight := halves(red, blue)
	wide := with(s, map[api.Point]api.Cell{point(1, 0): oldLeft, point(2, 0): oldRight})
	mended(t, wide, nil, rects(rect(2, 0, 1, 1)), with(wide, map[api.Point]api.Cell{point(2, 0): bare}))
	mended(t, wide, of(write(1, 0, 2, 1, "ab")), rects(rect(1, 0, 1, 1)), with(wide, map[api.Point]api.Cell{point(1, 0): {Rune: 'a', Colour: white}}))
	mended(t, wide, l, rects(rect(1, 0, 1, 1)), with(wide, map[api.Point]api.Cell{point(1, 0): left}))
	mended(t, wide, of(write(2, 0, 2, 1, "\u4e00")), rects(rect(2, 0, 1, 1)), with(wide, map[api.Point]api.Cell{point(2, 0): left}))
	// beside r they stay, alone too
	alone := with(s, map[api.Point]api.Cell{point(0, 0): oldRight, point(3, 0): oldLeft})
	mended(t, alone, nil, rects(rect(1, 0, 2, 1)), with(alone, map[api.Point]api.Cell{point(1, 0): bare, point(2, 0): bare}))
}

// P17.6 (W5): what a window does: draw, find out what changed, mend just that.
func TestMendWhatChanged(t *testing.T) {
	s := size(9, 5)
	f, g := by(1, fill(0, 0, 9, 5)), by(2, in(blue, fill(1, 1, 3, 2)))
	lists := [][]api.Stroke{
		nil, of(f), of(f, g), of(g, f), of(f, g, write(2, 1, 5, 2, "a\u4e00b\nc")), of(f, g, write(3, 1, 5, 2, "a\u4e00b\nc")),
		within(rect(0, 0, 5, 3), f, g), of(in(thin, fill(0, 0, 9, 5)), g), of(f, frame(0, 0, 9, 5)), of(f, in(thin, frame(1, 1, 5, 3))),
		slices.Concat(of(f), within(rect(4, 0, 9, 2), write(2, 1, 5, 2, "a\u4e00b\nc"))),
	}
	for _, a := range lists {
		for _, b := range lists {
			damage, e := Of(a, b)
			if e != api.OK {
				t.Fatal(e)
			}
			mended(t, screenOf(t, s, a...), b, damage, screenOf(t, s, b...))
		}
	}
}

// P17.2: the errors of a screen whose cells may not be, though they lie in r.
func TestMendWrongCells(t *testing.T) {
	s := with(dyed(size(2, 1)), map[api.Point]api.Cell{point(1, 0): {}})
	if got, e := Mend(s, nil, rects(rect(0, 0, 2, 1))); !isZero(got) || e != api.ErrCell || cells.Check(s) != api.ErrCell {
		t.Errorf("%v, %d", got, e)
	}
}
