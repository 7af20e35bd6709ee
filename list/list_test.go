package list

import (
	"slices"
	"testing"

	"casement/api"
	"casement/geom"
	"casement/region"
)

const side = api.MaxSide

func point(x, y int) api.Point { return api.Point{X: x, Y: y} }

func rect(x, y, w, h int) api.Rect {
	return api.Rect{At: point(x, y), Size: api.Size{W: w, H: h}}
}

func inked(a uint8) api.Colour { return api.Colour{R: 200, G: 100, B: 50, A: a} }

func fill(x, y, w, h int) api.Stroke {
	return api.Stroke{Kind: api.Fill, Rect: rect(x, y, w, h), Colour: inked(255)}
}

func frame(x, y, w, h int) api.Stroke {
	return api.Stroke{Kind: api.Frame, Rect: rect(x, y, w, h), Colour: inked(255)}
}

func write(x, y, w, h int, text string) api.Stroke {
	return api.Stroke{Kind: api.Write, Rect: rect(x, y, w, h), Colour: inked(255), Back: inked(7), Text: text}
}

func clip(r api.Rect) api.Stroke { return api.Stroke{Kind: api.Clip, Rect: r} }

func clipped(x, y, w, h int) api.Stroke { return clip(rect(x, y, w, h)) }

func open() api.Stroke { return api.Stroke{Kind: api.Open} }

func thin(s api.Stroke, a uint8) api.Stroke {
	s.Colour.A = a
	return s
}

func of(l ...api.Stroke) []api.Stroke { return l }

func rects(l ...api.Rect) []api.Rect { return l }

// within is a clip about strokes.
func within(r api.Rect, l ...api.Stroke) []api.Stroke {
	return slices.Concat(of(clip(r)), l, of(open()))
}

// The chapter's names.
func chapter() (f, g, c, o, t api.Stroke) {
	return fill(0, 0, 4, 4), fill(1, 1, 1, 1), clipped(0, 0, 2, 2), open(), write(1, 1, 3, 1, "x")
}

func TestExamples(t *testing.T) {
	f, g, c, o, x := chapter()
	for i, one := range []struct {
		l []api.Stroke
		e api.Errno
	}{
		{of(c, f, o), api.OK}, {of(f, o), api.ErrClip}, {of(c, f), api.ErrClip},
		{of(api.Stroke{Kind: api.Fill, Text: "x"}), api.ErrArg}, {of(fill(0, 0, -1, 1)), api.ErrRect},
	} {
		if e := Check(one.l); e != one.e {
			t.Errorf("Check %d: %d", i, e)
		}
	}
	flat(t, of(c, f, o, g), of(f, g), rects(rect(0, 0, 2, 2), rect(1, 1, 1, 1)))
	bound(t, of(c, f, o), rects(rect(0, 0, 2, 2)))
	bound(t, of(frame(0, 0, 3, 3)), rects(rect(0, 0, 3, 1), rect(0, 1, 1, 1), rect(2, 1, 1, 1), rect(0, 2, 3, 1)))
	bound(t, of(thin(f, 0)), nil)
	norm(t, of(g, f), of(f))
	norm(t, of(f, g), of(f, g))
	norm(t, of(c, o), nil)
	norm(t, of(c, c, g, o, o, f), of(f))
	inside(t, of(f, x), rects(rect(1, 1, 1, 1)), of(clipped(1, 1, 1, 1), f, x, o))
	inside(t, of(f), rects(rect(5, 5, 1, 1)), nil)
	if l, e := Moved(of(c, f, o), point(1, 0)); e != api.OK || !slices.Equal(l, of(clipped(1, 0, 2, 2), fill(1, 0, 4, 4), o)) {
		t.Errorf("Moved: %v, %d", l, e)
	}
	if l, e := Moved(of(f), point(16384, 0)); e != api.ErrSize || l != nil {
		t.Errorf("Moved too far: %v, %d", l, e)
	}
	if l, e := Join(of(f), of(c, o)); e != api.OK || !slices.Equal(l, of(f, c, o)) {
		t.Errorf("Join: %v, %d", l, e)
	}
}

func flat(t *testing.T, l, want []api.Stroke, at []api.Rect) {
	t.Helper()
	if a, b, e := Flat(l); e != api.OK || !slices.Equal(a, want) || !slices.Equal(b, at) {
		t.Errorf("Flat(%v): %v, %v, %d; %v, %v", l, a, b, e, want, at)
	}
}

func bound(t *testing.T, l []api.Stroke, want []api.Rect) {
	t.Helper()
	if got, e := Bound(l); e != api.OK || !slices.Equal(got, want) {
		t.Errorf("Bound(%v): %v, %d; %v", l, got, e, want)
	}
}

func norm(t *testing.T, l, want []api.Stroke) {
	t.Helper()
	if got, e := Norm(l); e != api.OK || !slices.Equal(got, want) {
		t.Errorf("Norm(%v): %v, %d; %v", l, got, e, want)
	}
}

func inside(t *testing.T, l []api.Stroke, r []api.Rect, want []api.Stroke) {
	t.Helper()
	if got, e := Within(l, r); e != api.OK || !slices.Equal(got, want) {
		t.Errorf("Within(%v, %v): %v, %d; %v", l, r, got, e, want)
	}
}

// P13.2: where strokes show, within no clip, one, several, closed ones, such as have no place together.
func TestFlat(t *testing.T) {
	f, g := fill(0, 0, 9, 9), frame(2, 2, 3, 9)
	flat(t, nil, nil, nil)
	flat(t, of(f), of(f), rects(f.Rect))
	flat(t, of(clipped(0, 0, 2, 2), open()), nil, nil)
	flat(t, within(rect(3, 3, 9, 2), f, g), of(f, g), rects(rect(3, 3, 6, 2), rect(3, 3, 2, 2)))
	// clips within clips, and what is behind them
	nest := slices.Concat(of(clipped(0, 0, 4, 4), f), within(rect(1, 2, 9, 1), f, g), of(g, open(), f))
	flat(t, nest, of(f, f, g, g, f), rects(rect(0, 0, 4, 4), rect(1, 2, 3, 1), rect(2, 2, 2, 1), rect(2, 2, 2, 2), f.Rect))
	// clips behind one another do not know of one another
	row := slices.Concat(within(rect(0, 0, 1, 1), f), within(rect(5, 5, 1, 1), f))
	flat(t, row, of(f, f), rects(rect(0, 0, 1, 1), rect(5, 5, 1, 1)))
	// clips that have no place together, and touch
	apart := slices.Concat(of(clipped(0, 0, 2, 2)), within(rect(2, 0, 2, 2), f), of(f, open()))
	flat(t, apart, of(f, f), rects(rect(0, 0, 0, 0), rect(0, 0, 2, 2)))
	flat(t, within(rect(0, 0, 4, 4), fill(4, 0, 1, 1), fill(0, 4, 1, 1), fill(-1, -1, 1, 1), fill(3, 3, 1, 1)),
		of(fill(4, 0, 1, 1), fill(0, 4, 1, 1), fill(-1, -1, 1, 1), fill(3, 3, 1, 1)),
		rects(rect(0, 0, 0, 0), rect(0, 0, 0, 0), rect(0, 0, 0, 0), rect(3, 3, 1, 1)))
	// a clip within an empty one shows nothing, however great it is
	flat(t, slices.Concat(of(clipped(3, 3, 0, 5)), within(rect(-side, -side, 2*side, 2*side), f), of(open())), of(f), rects(rect(0, 0, 0, 0)))
}

// P13.2: strokes that have no place stay in the list as they are; where they show is the zero rectangle, without any clip, too.
func TestFlatWithoutPlaces(t *testing.T) {
	l := of(fill(3, 3, 0, 5), frame(3, 3, 5, 0), write(side, side, 0, 0, "x"), fill(-side, 2, 0, 0))
	flat(t, l, l, make([]api.Rect, 4))
	// whether something shows there makes no difference
	l = of(thin(fill(1, 1, 2, 2), 0), thin(frame(1, 1, 2, 2), 0), write(1, 1, 2, 2, ""))
	flat(t, l, l, slices.Repeat(rects(rect(1, 1, 2, 2)), 3))
	l = of(fill(-side, -side, 2*side, 2*side), frame(side-1, side-1, 1, 1), fill(-side, -side, 1, 1))
	flat(t, l, l, rects(l[0].Rect, l[1].Rect, l[2].Rect))
}

// P13.3: each kind of stroke, and what of it counts.
func TestBound(t *testing.T) {
	for _, a := range []uint8{0, 1, 254, 255} {
		want := rects(rect(1, 1, 3, 2))
		if a == 0 {
			want = nil
		}
		bound(t, of(thin(fill(1, 1, 3, 2), a)), want)
		bound(t, of(thin(frame(1, 1, 3, 2), a)), want)
		// what a Write's colours are makes no difference
		w := thin(write(1, 1, 3, 2, "x"), a)
		w.Back = api.Colour{}
		bound(t, of(w), rects(rect(1, 1, 3, 2)))
		w.Text = ""
		bound(t, of(w), nil)
	}
	bound(t, nil, nil)
	bound(t, of(clipped(0, 0, 5, 5), open()), nil)
	bound(t, of(fill(3, 3, 0, 5), frame(3, 3, 5, 0), frame(3, 3, 0, 5), frame(-side, -side, 0, 0), write(3, 3, 0, 0, "x")), nil)
	bound(t, within(rect(0, 0, 2, 2), fill(2, 0, 2, 2), frame(0, 2, 2, 2), write(-2, -2, 2, 2, "x")), nil)
	bound(t, of(fill(0, 0, 2, 2), write(2, 0, 1, 2, "x"), fill(1, 1, 1, 1)), rects(rect(0, 0, 3, 2)))
	bound(t, of(write(0, 0, 9, 1, "x")), rects(rect(0, 0, 9, 1)))
}

// P13.3: Frames of one row, of one column, of two, of one place.
func TestBoundOfFrames(t *testing.T) {
	for _, r := range rects(rect(0, 0, 5, 1), rect(0, 0, 1, 5), rect(0, 0, 5, 2), rect(0, 0, 2, 5), rect(7, -7, 1, 1), rect(0, 0, 2, 2), rect(side-1, side-1, 1, 1)) {
		bound(t, of(frame(r.At.X, r.At.Y, r.Size.W, r.Size.H)), rects(r))
	}
	bound(t, of(frame(2, 3, 5, 4)), rects(rect(2, 3, 5, 1), rect(2, 4, 1, 2), rect(6, 4, 1, 2), rect(2, 6, 5, 1)))
	all := frame(-side, -side, 2*side, 2*side)
	bound(t, of(all), rects(rect(-side, -side, 2*side, 1), rect(-side, 1-side, 1, 2*side-2), rect(side-1, 1-side, 1, 2*side-2), rect(-side, side-1, 2*side, 1)))
}

// P13.3: Frames cut by clips so that none, one, two, three of their borders are left.
func TestBoundOfCutFrames(t *testing.T) {
	f := frame(0, 0, 5, 5)
	for _, one := range []struct {
		clip api.Rect
		want []api.Rect
	}{
		{rect(1, 1, 3, 3), nil},
		{rect(1, 0, 3, 3), rects(rect(1, 0, 3, 1))},
		{rect(0, 1, 3, 3), rects(rect(0, 1, 1, 3))},
		{rect(1, 1, 9, 3), rects(rect(4, 1, 1, 3))},
		{rect(1, 1, 3, 9), rects(rect(1, 4, 3, 1))},
		{rect(0, 0, 3, 3), rects(rect(0, 0, 3, 1), rect(0, 1, 1, 2))},
		{rect(0, 1, 9, 3), rects(rect(0, 1, 1, 3), rect(4, 1, 1, 3))},
		{rect(1, 0, 3, 9), rects(rect(1, 0, 3, 1), rect(1, 4, 3, 1))},
		{rect(3, 3, 3, 3), rects(rect(4, 3, 1, 1), rect(3, 4, 2, 1))},
		{rect(0, 0, 9, 3), rects(rect(0, 0, 5, 1), rect(0, 1, 1, 2), rect(4, 1, 1, 2))},
		{rect(0, 0, 3, 9), rects(rect(0, 0, 3, 1), rect(0, 1, 1, 3), rect(0, 4, 3, 1))},
		{rect(0, 2, 9, 9), rects(rect(0, 2, 1, 2), rect(4, 2, 1, 2), rect(0, 4, 5, 1))},
		{rect(0, 0, 1, 1), rects(rect(0, 0, 1, 1))},
		{rect(4, 4, 1, 1), rects(rect(4, 4, 1, 1))},
	} {
		bound(t, within(one.clip, f), one.want)
		// one that shows nowhere shows nowhere to Norm and Within either
		left := within(one.clip, f)
		if one.want == nil {
			left = nil
		}
		norm(t, within(one.clip, f), left)
		inside(t, of(f), rects(one.clip), left)
	}
}

// apart are places of which no two touch, n of them: their form has as many rectangles.
func apart(n int) []api.Stroke {
	var l []api.Stroke
	for i := range n {
		l = append(l, fill(2*(i%64), 2*(i/64), 1, 1))
	}
	return l
}

// P13.3: as many rectangles as region takes, and one more: ahead of the form, also where it would be short; and a form that is too long.
func TestBoundTooMany(t *testing.T) {
	gone := of(thin(fill(0, 0, 1, 1), 0), write(0, 0, 1, 1, ""), fill(0, 0, 0, 9), clipped(1, 1, 3, 3), frame(0, 0, 5, 5), open())
	for i, one := range []struct {
		l []api.Stroke
		e api.Errno
		n int
	}{
		{apart(1024), api.OK, 1024},
		{slices.Concat(gone, apart(1024), gone), api.OK, 1024},
		{apart(1025), api.ErrMany, 0},
		{slices.Repeat(of(fill(0, 0, 3, 3)), 1024), api.OK, 1},
		{slices.Repeat(of(fill(0, 0, 3, 3)), 1025), api.ErrMany, 0},
		{slices.Repeat(of(write(0, 0, 3, 3, "x")), 1025), api.ErrMany, 0},
		// four rectangles of each Frame, also of one place
		{slices.Repeat(of(frame(0, 0, 5, 5)), 256), api.OK, 4},
		{slices.Repeat(of(frame(0, 0, 5, 5)), 257), api.ErrMany, 0},
		{slices.Repeat(of(frame(0, 0, 1, 1)), 256), api.OK, 1},
		{append(slices.Repeat(of(frame(0, 0, 1, 1)), 256), fill(9, 9, 1, 1)), api.ErrMany, 0},
		// two of one of which two borders are left: what is empty does not count
		{within(rect(0, 1, 9, 3), slices.Repeat(of(frame(0, 0, 5, 5)), 512)...), api.OK, 2},
		{within(rect(0, 1, 9, 3), slices.Repeat(of(frame(0, 0, 5, 5)), 513)...), api.ErrMany, 0},
		{lattice(31, 32), api.OK, 31*32 + 32},
		{lattice(32, 32), api.ErrMany, 0},
	} {
		if got, e := Bound(one.l); e != one.e || len(got) != one.n {
			t.Errorf("%d: %d rectangles, %d; %d, %d", i, len(got), e, one.n, one.e)
		}
	}
}

// lattice is columns, a place apart, with rows over them, a place apart: its form has a rectangle for each row, and below each row one for each column.
func lattice(columns, rows int) []api.Stroke {
	var l []api.Stroke
	for i := range columns {
		l = append(l, fill(2*i, 0, 1, 2*rows))
	}
	for i := range rows {
		l = append(l, fill(0, 2*i, 2*columns, 1))
	}
	return l
}

// P13.3: Bound is region.Of of the rectangles that the words tell, also far out.
func TestBoundIsTheForm(t *testing.T) {
	l := of(fill(0, 0, 2, 2), fill(1, 1, 2, 2), write(-side, 5, 3, 2, "x"))
	want, e := region.Of(rects(rect(0, 0, 2, 2), rect(1, 1, 2, 2), rect(-side, 5, 3, 2)))
	if e != api.OK {
		t.Fatal(e)
	}
	bound(t, l, want)
	if e := region.Check(want); e != api.OK || geom.Empty(want[0]) {
		t.Error(e)
	}
}
