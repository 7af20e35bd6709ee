package damage

import (
	"slices"
	"strings"
	"testing"

	"casement/api"
	"casement/region"
)

// apart are Fills of one place each, of which no two touch, n of them, from 5 5 on: their form has as many rectangles.
func apart(n int) []api.Stroke {
	var l []api.Stroke
	for i := range n {
		l = append(l, fill(5+2*(i%64), 5+2*(i/64), 1, 1))
	}
	return l
}

// corner are n Fills, each of one row or one column: their form has two rectangles, and leaves a piece of the one about them.
func corner(n int) []api.Stroke {
	l := slices.Repeat(of(fill(3, 3, 4, 1), fill(3, 3, 1, 5)), (n+1)/2)
	return l[:n]
}

var (
	cornerForm  = rects(rect(3, 3, 4, 1), rect(3, 4, 1, 4))
	cornerAbout = rects(rect(3, 3, 4, 5))
)

// P17.1: as many pieces as MaxRects, and one more: also where their form would be short.
func TestMostPieces(t *testing.T) {
	differ(t, corner(api.MaxRects), nil, cornerForm...)
	differ(t, corner(api.MaxRects+1), nil, cornerAbout...)
	differ(t, corner(api.MaxStrokes), nil, cornerAbout...)
	// of both middles together
	half := corner(api.MaxRects / 2)
	differ(t, append(slices.Clone(half), write(3, 3, 4, 1, "x")), half[1:], cornerForm...)
	differ(t, append(slices.Clone(half), write(3, 3, 4, 1, "x")), half, rect(3, 3, 4, 1)) // all but one is the beginning
	a := slices.Repeat(of(fill(3, 3, 4, 1)), api.MaxRects/2)
	b := slices.Repeat(of(fill(3, 3, 1, 5)), api.MaxRects/2)
	differ(t, a, b, cornerForm...)
	differ(t, append(slices.Clone(a), fill(3, 3, 1, 1)), b, cornerAbout...)
	differ(t, append(slices.Clone(a), fill(3, 3, 4, 1)), b, cornerAbout...)
	// without what is alike, and what has no pieces
	head, tail, gone := apart(api.MaxRects*2), slices.Repeat(of(frame(1, 1, 5, 5)), api.MaxRects*2), slices.Repeat(of(fill(0, 0, 0, 3), write(0, 0, 9, 9, ""), in(none, fill(0, 0, 9, 9))), 999)
	differ(t, slices.Concat(head, corner(api.MaxRects), tail), slices.Concat(head, tail), cornerForm...)
	differ(t, slices.Concat(head, corner(api.MaxRects+1), tail), slices.Concat(head, tail), cornerAbout...)
	differ(t, slices.Concat(head, of(fill(1, 1, 1, 1)), tail), slices.Concat(head, tail), rect(1, 1, 1, 1))
	differ(t, slices.Concat(gone, corner(api.MaxRects), gone), nil, cornerForm...)
	differ(t, slices.Concat(gone, corner(api.MaxRects+1), gone), nil, cornerAbout...)
}

// P17.1: Frames have four pieces, also where these lie over one another, and fewer where clips leave fewer.
func TestMostPiecesOfFrames(t *testing.T) {
	for _, one := range []struct {
		clip, frame api.Rect
		pieces      int
	}{
		{rect(0, 0, 9, 9), rect(1, 1, 4, 4), 4},
		{rect(0, 0, 9, 9), rect(1, 1, 1, 1), 4},
		{rect(0, 0, 9, 9), rect(1, 1, 5, 1), 4},
		{rect(0, 0, 9, 9), rect(1, 1, 1, 5), 4},
		{rect(1, 2, 9, 9), rect(1, 1, 4, 4), 3},
		{rect(0, 0, 9, 4), rect(1, 1, 4, 4), 3},
		{rect(2, 0, 9, 9), rect(1, 1, 4, 4), 3},
		{rect(0, 0, 4, 9), rect(1, 1, 4, 4), 3},
		{rect(0, 2, 9, 2), rect(1, 1, 4, 4), 2},
		{rect(0, 0, 2, 2), rect(1, 1, 4, 4), 2},
		{rect(4, 1, 1, 1), rect(1, 1, 4, 4), 2},
		{rect(2, 1, 1, 1), rect(1, 1, 4, 4), 1},
		{rect(2, 2, 2, 2), rect(1, 1, 4, 4), 0},
	} {
		f := of(frame(one.frame.At.X, one.frame.At.Y, one.frame.Size.W, one.frame.Size.H))
		n := 100
		l := within(one.clip, slices.Repeat(f, n)...)
		rest := api.MaxRects - n*one.pieces
		full := append(slices.Clone(l), corner(rest)...)
		got, e := Of(full, nil)
		if want := modelOf(full, nil); !slices.Equal(got, want) || e != api.OK || len(got) < 2 {
			t.Errorf("%v in %v: %s, %d; %s", one.frame, one.clip, brief(got), e, brief(want))
		}
		more := append(slices.Clone(l), corner(rest+1)...)
		got, e = Of(more, nil)
		if want := modelOf(more, nil); !slices.Equal(got, want) || e != api.OK || len(got) != 1 {
			t.Errorf("%v in %v, one more: %s, %d; %s", one.frame, one.clip, brief(got), e, brief(want))
		}
	}
}

// P17.1: forms of MaxRects rectangles, and of more.
func TestGreatestForm(t *testing.T) {
	for _, n := range []int{1, api.MaxRects - 1, api.MaxRects} {
		var want []api.Rect
		for _, s := range apart(n) {
			want = append(want, s.Rect)
		}
		differ(t, apart(n), nil, want...)
		differ(t, apart(n)[:n/2], apart(n)[n/2:], want...)
	}
	differ(t, apart(api.MaxRects+1), nil, rect(5, 5, 127, 33))
	for _, one := range []struct{ columns, rows, rects int }{{31, 32, 1024}, {40, 25, 1}, {32, 32, 1}, {24, 41, 1}, {1023, 1, 1024}} {
		l := lattice(one.columns, one.rows)
		got, e := Of(l, nil)
		if len(got) != one.rects || e != api.OK {
			t.Errorf("%v: %d rectangles, %d", one, len(got), e)
		}
		if one.rects > 1 && region.Check(got) != api.OK {
			t.Errorf("%v: no form", one)
		}
		if one.rects == 1 && got[0] != rect(-3, 2, 2*one.columns, 2*one.rows) {
			t.Errorf("%v: %s", one, brief(got))
		}
	}
}

// lattice is columns, a place apart, with rows over them, a place apart: its form has a rectangle for each row, and below each row one for each column.
func lattice(columns, rows int) []api.Stroke {
	var l []api.Stroke
	for i := range columns {
		l = append(l, fill(-3+2*i, 2, 1, 2*rows))
	}
	for i := range rows {
		l = append(l, fill(-3, 2+2*i, 2*columns, 1))
	}
	return l
}

// P17.1: the least rectangle about all, far out.
func TestLeastRectangle(t *testing.T) {
	dot := fill(4, 7, 1, 1)
	for _, far := range of(fill(side-1, 7, 1, 1), fill(-side, -side, 1, 1), fill(4, side-2, 3, 2), fill(9, -side, 1, 2*side), fill(-side, -side, 2*side, 2*side)) {
		l := append(slices.Repeat(of(dot), api.MaxRects), far)
		r := far.Rect
		x, y := min(4, r.At.X), min(7, r.At.Y)
		differ(t, l, nil, rect(x, y, max(5, r.At.X+r.Size.W)-x, max(8, r.At.Y+r.Size.H)-y))
		// what shows of it alone counts
		differ(t, append(slices.Repeat(of(dot), api.MaxRects+1), within(rect(0, 0, 9, 8), far)...), nil, modelOf(append(slices.Repeat(of(dot), api.MaxRects+1), within(rect(0, 0, 9, 8), far)...), nil)...)
	}
	differ(t, slices.Repeat(of(dot), api.MaxRects+1), nil, dot.Rect)
}

// P17.1, P17.4: MaxStrokes strokes, clips as deep as may be, texts as long as may be.
func TestMostStrokes(t *testing.T) {
	l := corner(api.MaxStrokes)
	differ(t, l, l)
	moved(t, l, l)
	other := slices.Clone(l)
	other[api.MaxStrokes-1] = by(1, fill(50, 50, 2, 2))
	differ(t, l, other, rect(3, 3, 1, 5), rect(50, 50, 2, 2))
	moved(t, l, other, 0, 1)
	other[0] = by(2, other[0])
	differ(t, l, other, rect(3, 3, 49, 49))
	moved(t, l, other, 0, 1, 2)
	n := api.MaxStrokes/2 - 1
	deep := slices.Concat(slices.Repeat(of(clip(0, 0, 5, 5)), n), of(fill(1, 1, 9, 9)), slices.Repeat(of(open()), n))
	differ(t, deep, nil, rect(1, 1, 4, 4))
	differ(t, deep, within(rect(0, 0, 5, 5), fill(1, 1, 9, 9)))
	moved(t, deep, within(rect(0, 0, 5, 5), fill(1, 1, 9, 9)))
	long := strings.Repeat("x", api.MaxText-1)
	var texts, changed []api.Stroke
	for i := range 2000 {
		texts = append(texts, by(i%7, write(i, 0, 1, 1, long+"y")))
		changed = append(changed, texts[i])
	}
	changed[1000].Text = long + "z"
	differ(t, texts, changed, rect(1000, 0, 1, 1))
	moved(t, texts, changed, 1000%7)
	slices.Reverse(changed)
	moved(t, texts, changed, 1000%7)
}

// marked is a screen with cells changed where rectangles lie.
func marked(s api.Screen, l ...api.Rect) api.Screen {
	s.Cells = slices.Clone(s.Cells)
	for _, r := range l {
		for _, p := range modelPlaces(r, func(api.Point) bool { return true }) {
			s.Cells[p.Y*s.Size.W+p.X] = bare
		}
	}
	return s
}

// P17.3: forms of MaxRects rectangles, and of more, also where there are many more runs than that.
func TestMostChanged(t *testing.T) {
	s := dyed(size(512, 512))
	var dots []api.Rect
	for _, x := range apart(api.MaxRects + 1) {
		dots = append(dots, x.Rect)
	}
	unlike(t, s, marked(s, dots[:api.MaxRects]...), dots[:api.MaxRects]...)
	unlike(t, s, marked(s, dots[:api.MaxRects-1]...), dots[:api.MaxRects-1]...)
	unlike(t, s, marked(s, dots...), rect(5, 5, 127, 33))
	// dots beside one another are one rectangle
	unlike(t, s, marked(s, append(dots[:api.MaxRects-1:api.MaxRects-1], rect(6, 5, 1, 1))...), append(rects(rect(5, 5, 3, 1)), dots[2:api.MaxRects-1]...)...)
	for _, one := range []struct{ columns, rows, rects int }{{31, 32, 1024}, {40, 25, 1}, {32, 32, 1}} {
		l := lattice(one.columns, one.rows)
		var places []api.Rect
		for _, x := range l {
			places = append(places, rect(x.Rect.At.X+3, x.Rect.At.Y, x.Rect.Size.W, x.Rect.Size.H))
		}
		got, e := Changed(s, marked(s, places...))
		if len(got) != one.rects || e != api.OK {
			t.Errorf("%v: %d rectangles, %d", one, len(got), e)
		}
		if one.rects == 1 && got[0] != rect(0, 2, 2*one.columns, 2*one.rows) {
			t.Errorf("%v: %s", one, brief(got))
		}
	}
	// stripes, each as high as the screen: as many runs in each row
	var stripes []api.Rect
	for i := range 256 {
		stripes = append(stripes, rect(2*i, 0, 1, 512))
	}
	unlike(t, s, marked(s, stripes...), stripes...)
	stripes[9].Size.H--
	unlike(t, s, marked(s, stripes...), modelChanged(s, marked(s, stripes...))...)
	unlike(t, s, marked(s, rect(0, 0, 512, 512)), rect(0, 0, 512, 512))
	for _, x := range []api.Size{size(side, 16), size(16, side)} {
		unlike(t, dyed(x), blanks(t, x), api.Rect{Size: x})
		unlike(t, dyed(x), marked(dyed(x), rect(x.W-1, x.H-1, 1, 1)), rect(x.W-1, x.H-1, 1, 1))
	}
}

// P17.3: as many pieces as there can be.
func TestChequered(t *testing.T) {
	a, b := dyed(size(512, 512)), dyed(size(512, 512))
	for i := range b.Cells {
		if x, y := i%512, i/512; (x+y)%2 == 0 && x > 2 && y > 3 && x < 500 && y < 490 {
			b.Cells[i] = bare
		}
	}
	unlike(t, a, b, rect(3, 4, 497, 486))
}

// P17.2: MaxRects rectangles, one more, and such as have a form that is too long: r need be no form.
func TestMendMostRectangles(t *testing.T) {
	s, l := dyed(size(160, 80)), of(fill(0, 0, 160, 80), write(0, 0, 160, 80, strings.Repeat(strings.Repeat("a\u4e00", 60)+"\n", 80)))
	now := screenOf(t, s.Size, l...)
	want := func(r []api.Rect) api.Screen {
		made := api.Screen{Size: s.Size, Cells: slices.Clone(s.Cells)}
		for i := range made.Cells {
			if modelIn(r, point(i%160, i/160)) {
				made.Cells[i] = now.Cells[i]
			}
		}
		return made
	}
	var dots, grid []api.Rect
	for _, x := range apart(api.MaxRects) {
		dots = append(dots, x.Rect)
	}
	for _, x := range lattice(40, 30) {
		grid = append(grid, x.Rect)
	}
	if _, e := region.Of(grid); e != api.ErrMany {
		t.Fatal(e)
	}
	for _, r := range [][]api.Rect{dots, grid, slices.Repeat(rects(rect(1, 1, 50, 50)), api.MaxRects), append(make([]api.Rect, api.MaxRects-1), rect(159, 79, 1, 1))} {
		if got, e := Mend(s, l, r); !alike(got, want(r)) || e != api.OK {
			t.Errorf("%d rectangles: %d", len(r), e)
		}
		if got, e := Mend(s, l, append(slices.Clone(r), make([]api.Rect, api.MaxRects+1-len(r))...)); !isZero(got) || e != api.ErrMany {
			t.Errorf("one more: %d", e)
		}
	}
}

// P17.2: screens of MaxCells cells, in each shape.
func TestMendMostCells(t *testing.T) {
	for _, x := range []api.Size{size(512, 512), size(side, 16), size(16, side)} {
		all := rect(0, 0, x.W, x.H)
		l := of(fill(0, 0, x.W, x.H), frame(0, 0, x.W, x.H))
		if got, e := Mend(dyed(x), l, rects(all)); !alike(got, screenOf(t, x, l...)) || e != api.OK {
			t.Errorf("%v: %d", x, e)
		}
		last := with(dyed(x), map[api.Point]api.Cell{point(x.W-1, x.H-1): {Rune: 0x2518, Colour: white, Back: red}})
		if got, e := Mend(dyed(x), l, rects(rect(x.W-1, x.H-1, side-x.W+1, side-x.H+1))); !alike(got, last) || e != api.OK {
			t.Errorf("%v, the last place: %d", x, e)
		}
		if got, e := Mend(dyed(x), l, slices.Repeat(rects(all), api.MaxRects)); !alike(got, screenOf(t, x, l...)) || e != api.OK {
			t.Errorf("%v, again and again: %d", x, e)
		}
	}
}

// P17.2: MaxStrokes strokes, and such that their pieces in all rectangles of r are more than that.
func TestMendMostStrokes(t *testing.T) {
	s := size(140, 40)
	var dots []api.Rect
	for _, x := range apart(api.MaxRects) {
		dots = append(dots, x.Rect)
	}
	few := within(rect(9, 9, 90, 20), in(thin, fill(0, 0, 140, 40)), write(10, 10, 50, 9, "a\u4e00b\nc"))
	for _, n := range []int{1, 300, api.MaxStrokes - 6, api.MaxStrokes - 5, api.MaxStrokes - 4} {
		l := append(slices.Repeat(of(in(thin, fill(0, 5, 140, 1))), n), few...)
		now := screenOf(t, s, l...)
		for _, r := range [][]api.Rect{nil, dots, rects(rect(4, 2, 9, 9)), rects(rect(0, 0, 140, 40))} {
			want := dyed(s)
			for i := range want.Cells {
				if modelIn(r, point(i%s.W, i/s.W)) {
					want.Cells[i] = now.Cells[i]
				}
			}
			if got, e := Mend(dyed(s), l, r); !alike(got, want) || e != api.OK {
				t.Errorf("%d strokes, %d rectangles: %d", len(l), len(r), e)
			}
		}
	}
}

// P17.2: a small piece of a great screen, on all of which as much is drawn as may be.
func TestMendSmallPiece(t *testing.T) {
	x := size(512, 512)
	l := slices.Repeat(of(in(thin, fill(0, 0, 512, 512))), api.MaxStrokes-2)
	one := screenOf(t, size(1, 1), l...)
	want := with(dyed(x), map[api.Point]api.Cell{point(300, 200): one.Cells[0]})
	if got, e := Mend(dyed(x), l, rects(rect(300, 200, 1, 1))); !alike(got, want) || e != api.OK {
		t.Error(e)
	}
}
