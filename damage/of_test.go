package damage

import (
	"slices"
	"testing"

	"casement/api"
)

// P17.1: no strokes in one list, in the other one, in both.
func TestOfNothing(t *testing.T) {
	f, g, _, c, o := chapter()
	differ(t, nil, nil)
	differ(t, nil, of())
	differ(t, of(f), nil, rect(0, 0, 4, 4))
	differ(t, of(f, g), of(), rect(0, 0, 4, 4))
	differ(t, of(g, write(5, 5, 2, 1, "x")), nil, rect(1, 1, 1, 1), rect(5, 5, 2, 1))
	differ(t, of(c, o), nil)
	differ(t, of(c, c, o, o), of(clip(3, 3, 1, 1), o))
}

// dots are opaque Fills of one place each, that do not touch.
func dots() (a, b, c, d api.Stroke) {
	return fill(0, 0, 1, 1), fill(2, 0, 1, 1), fill(4, 0, 1, 1), fill(6, 0, 1, 1)
}

// P17.1: what is alike at the beginnings, at the ends, at both.
func TestOfMiddles(t *testing.T) {
	a, b, c, d := dots()
	differ(t, of(a, b, c), of(a, b, c))
	differ(t, of(a, b), of(a, c), b.Rect, c.Rect)
	differ(t, of(a, b), of(a, b, c, d), c.Rect, d.Rect)
	differ(t, of(b, a), of(c, a), b.Rect, c.Rect)
	differ(t, of(c, d), of(a, b, c, d), a.Rect, b.Rect)
	differ(t, of(a, b, d), of(a, c, d), b.Rect, c.Rect)
	differ(t, of(a, d), of(a, b, c, d), b.Rect, c.Rect)
	differ(t, of(a, b, c, d), of(d, b, c, a), a.Rect, b.Rect, c.Rect, d.Rect)
	// what is alike between such as are unlike counts
	differ(t, of(a, c, b), of(d, c, a), a.Rect, b.Rect, c.Rect, d.Rect)
	differ(t, of(d, a, c, b, d), of(d, b, c, a, d), a.Rect, b.Rect, c.Rect)
	// strokes by strokes from the ends: a missing one moves all that is behind it
	differ(t, of(a, b, c, d), of(b, c, d, a), a.Rect, b.Rect, c.Rect, d.Rect)
}

// P17.1: the end is of what is behind the beginning: it does not reach into it.
func TestOfEndsAtTheBeginning(t *testing.T) {
	a, b, c, _ := dots()
	differ(t, of(a), of(a, a), a.Rect)
	differ(t, of(a, a), of(a, a, a), a.Rect)
	differ(t, of(a), of(a, b, a), a.Rect, b.Rect)
	differ(t, of(a, b), of(a, b, a, b), a.Rect, b.Rect)
	differ(t, of(a, b, c), of(a, b, b, c), b.Rect)
	differ(t, of(a, b, b, c), of(a, b, b, b, c), b.Rect)
	differ(t, of(a, b, a), of(a, b, a, b, a), a.Rect, b.Rect)
	differ(t, of(b, a), of(b, a, c, a), a.Rect, c.Rect)
}

// P17.1: the same strokes in another order, the same one twice.
func TestOfOrder(t *testing.T) {
	a, b, c, d := dots()
	differ(t, of(a, b), of(b, a), a.Rect, b.Rect)
	differ(t, of(c, a, b, d), of(c, b, a, d), a.Rect, b.Rect)
	differ(t, of(a, b, c), of(c, b, a), a.Rect, b.Rect, c.Rect)
	differ(t, of(a, a, b), of(a, b, b), a.Rect, b.Rect)
	differ(t, of(a, a), of(a, a))
	differ(t, of(a, a), nil, a.Rect)
	differ(t, of(a, a, a), of(b, b), a.Rect, b.Rect)
}

// base is a stroke of each kind that draws, at 1 1, none of whose fields is zero but those that have to be.
func base(kind uint8) api.Stroke {
	s := api.Stroke{Kind: kind, Rect: rect(1, 1, 3, 2), Colour: api.Colour{R: 1, G: 2, B: 3, A: 4}, Node: 5}
	if kind == api.Write {
		s.Back, s.Text = api.Colour{R: 5, G: 6, B: 7, A: 8}, "x"
	}
	return s
}

// P17.1, P17.4: strokes that are unlike in one field alone.
func TestOneField(t *testing.T) {
	same := rects(rect(1, 1, 3, 2))
	for _, one := range []struct {
		write  bool // of a Write alone
		change func(s *api.Stroke)
		want   []api.Rect
		nodes  []int
	}{
		{false, func(s *api.Stroke) { s.Rect.At.X = 2 }, rects(rect(1, 1, 4, 2)), nodes(5)},
		{false, func(s *api.Stroke) { s.Rect.At.Y = 2 }, rects(rect(1, 1, 3, 3)), nodes(5)},
		{false, func(s *api.Stroke) { s.Rect.Size.W = 4 }, rects(rect(1, 1, 4, 2)), nodes(5)},
		{false, func(s *api.Stroke) { s.Rect.Size.W = 2 }, same, nodes(5)},
		{false, func(s *api.Stroke) { s.Rect.Size.H = 1 }, same, nodes(5)},
		{false, func(s *api.Stroke) { s.Rect.Size.H = 0 }, same, nodes(5)},
		{false, func(s *api.Stroke) { s.Colour.R = 2 }, same, nodes(5)},
		{false, func(s *api.Stroke) { s.Colour.G = 3 }, same, nodes(5)},
		{false, func(s *api.Stroke) { s.Colour.B = 4 }, same, nodes(5)},
		{false, func(s *api.Stroke) { s.Colour.A = 5 }, same, nodes(5)},
		{false, func(s *api.Stroke) { s.Colour.A = 0 }, same, nodes(5)},
		{false, func(s *api.Stroke) { s.Node = 6 }, same, nodes(5, 6)},
		{true, func(s *api.Stroke) { s.Back.R = 0 }, same, nodes(5)},
		{true, func(s *api.Stroke) { s.Back.G = 0 }, same, nodes(5)},
		{true, func(s *api.Stroke) { s.Back.B = 0 }, same, nodes(5)},
		{true, func(s *api.Stroke) { s.Back.A = 0 }, same, nodes(5)},
		{true, func(s *api.Stroke) { s.Text = "y" }, same, nodes(5)},
		{true, func(s *api.Stroke) { s.Text = "x " }, same, nodes(5)},
		{true, func(s *api.Stroke) { s.Text = "" }, same, nodes(5)},
		{true, func(s *api.Stroke) { s.Kind, s.Text, s.Back = api.Fill, "", none }, same, nodes(5)},
	} {
		for _, kind := range []uint8{api.Fill, api.Frame, api.Write} {
			if one.write && kind != api.Write {
				continue
			}
			a, b := base(kind), base(kind)
			one.change(&b)
			want := one.want
			if kind == api.Frame && b.Rect.At.Y == 2 {
				want = rects(rect(1, 1, 3, 3)) // no place is inside
			}
			differ(t, of(a), of(b), want...)
			moved(t, of(a), of(b), one.nodes...)
			// and between such as are alike
			c := by(9, fill(0, 0, 9, 9))
			differ(t, of(c, a, c), of(c, b, c), want...)
			moved(t, of(c, a, c), of(c, b, c), one.nodes...)
		}
	}
	differ(t, of(base(api.Fill)), of(in(base(api.Fill).Colour, by(5, frame(1, 1, 3, 2)))), same...)
	moved(t, of(base(api.Fill)), of(in(base(api.Fill).Colour, by(5, frame(1, 1, 3, 2)))), 5)
}

// P17.1: the same stroke in another clip is another one just if it shows in another rectangle.
func TestOfClips(t *testing.T) {
	f, g := fill(0, 0, 4, 4), fill(9, 9, 1, 1)
	differ(t, within(rect(0, 0, 2, 2), f), within(rect(0, 0, 2, 2), f))
	differ(t, within(rect(0, 0, 2, 2), f), within(rect(2, 0, 2, 2), f), rect(0, 0, 4, 2))
	differ(t, within(rect(0, 0, 2, 2), f), within(rect(0, 0, 1, 2), f), rect(0, 0, 2, 2))
	// clips that change nothing of where it shows
	differ(t, of(f), within(rect(0, 0, 4, 4), f))
	differ(t, of(f), within(rect(-5, -5, 20, 20), f))
	differ(t, within(rect(-5, 0, 9, 4), f), within(rect(0, -7, 4, 99), f))
	differ(t, of(f, g), slices.Concat(within(rect(0, 0, 5, 5), f), of(g)))
	// clips within clips: what they leave together counts
	deep := slices.Concat(of(clip(0, 0, 2, 4)), within(rect(0, 0, 4, 2), f), of(open()))
	differ(t, deep, within(rect(0, 0, 2, 2), f))
	differ(t, deep, within(rect(0, 0, 2, 3), f), rect(0, 0, 2, 3))
	differ(t, deep, of(f), rect(0, 0, 4, 4))
	// what stands ahead of an Open shows in its clip, what stands behind it does not
	differ(t, of(clip(0, 0, 2, 2), f, open(), g), of(clip(0, 0, 2, 2), f, g, open()), g.Rect)
	differ(t, of(clip(0, 0, 2, 2), f, f, open()), of(clip(0, 0, 2, 2), f, open(), f), f.Rect)
}

// P17.1: clips that show nothing: all that is in them shows in the same rectangle, the zero one.
func TestOfClipsThatShowNothing(t *testing.T) {
	f, g := fill(0, 0, 4, 4), fill(9, 9, 1, 1)
	gone := within(rect(5, 5, 2, 2), f)
	differ(t, gone, nil)
	differ(t, gone, within(rect(1, 1, 0, 3), f))
	differ(t, gone, of(f), f.Rect)
	differ(t, gone, of(g), g.Rect)
	differ(t, of(f, g), slices.Concat(of(f), within(rect(0, 0, 0, 0), g)), g.Rect)
	differ(t, slices.Concat(of(clip(0, 0, 2, 2)), within(rect(2, 0, 2, 2), f), of(open(), g)), of(g))
	differ(t, slices.Concat(of(clip(0, 0, 2, 2)), within(rect(2, 0, 2, 2), f), of(g, open())), of(g), g.Rect)
	// though they show nothing, they are flat strokes: the beginning ends there
	differ(t, slices.Concat(gone, of(g)), slices.Concat(of(g), gone), g.Rect)
	differ(t, slices.Concat(of(g), gone, of(g)), of(g, g))
}

// P17.1, P17.4: Clips and Opens are no flat strokes, whatever they have.
func TestClipsThemselves(t *testing.T) {
	f := by(1, fill(0, 0, 4, 4))
	for _, l := range [][]api.Stroke{
		of(clip(0, 0, 9, 9), f, open()), of(by(7, clip(0, 0, 9, 9)), f, by(8, open())), of(f, clip(0, 0, 9, 9), open()), of(clip(1, 1, 1, 1), open(), f),
		of(by(9, clip(0, 0, 4, 4)), clip(0, 0, 4, 4), f, by(1, open()), open()), of(clip(0, 0, 1, 1), clip(5, 5, 1, 1), open(), open(), f),
	} {
		differ(t, l, of(f))
		moved(t, l, of(f))
		differ(t, l, nil, f.Rect)
		moved(t, l, nil, 1)
	}
	differ(t, of(by(3, clip(0, 0, 1, 1)), by(3, open())), nil)
	moved(t, of(by(3, clip(0, 0, 1, 1)), by(3, open())), nil)
}

// P17.1: which strokes have pieces.
func TestPiecesOf(t *testing.T) {
	for _, a := range []uint8{0, 1, 254, 255} {
		c := api.Colour{R: 9, A: a}
		var want []api.Rect
		if a > 0 {
			want = rects(rect(1, 1, 2, 2))
		}
		differ(t, of(in(c, fill(1, 1, 2, 2))), nil, want...)
		differ(t, of(in(c, frame(1, 1, 2, 2))), nil, want...)
		// a Write shows wherever it lies, whatever its colours are
		w := in(c, write(1, 1, 2, 2, "x"))
		differ(t, of(w), nil, rect(1, 1, 2, 2))
		w.Back.A = a
		differ(t, of(w), nil, rect(1, 1, 2, 2))
		w.Text = ""
		differ(t, of(w), nil)
	}
	differ(t, of(in(none, write(1, 1, 2, 2, "\n"))), nil, rect(1, 1, 2, 2))
	differ(t, of(in(none, fill(1, 1, 2, 2))), of(write(1, 1, 2, 2, "")))
	// such as have none lie between others, and these are unlike then
	gone := in(none, fill(1, 1, 2, 2))
	a, b, _, _ := dots()
	differ(t, of(a, gone), of(gone, a), a.Rect)
	differ(t, of(a, gone, b), of(a, b))
	differ(t, of(a, gone, b, gone), of(gone, a, b), a.Rect, b.Rect)
}

// P17.1: empty rectangles.
func TestOfEmpty(t *testing.T) {
	for _, r := range rects(api.Rect{}, rect(3, 3, 0, 5), rect(3, 3, 5, 0), rect(side, side, 0, 0), rect(-side, -side, 0, 0), rect(side, 0, 0, 1), rect(0, side, 1, 0)) {
		for _, kind := range []uint8{api.Fill, api.Frame, api.Write} {
			s := base(kind)
			s.Rect = r
			differ(t, of(s), nil)
			differ(t, of(s, s), of(s))
			differ(t, of(s, fill(1, 1, 1, 1)), of(fill(1, 1, 1, 1)))
			differ(t, of(s), of(base(kind)), rect(1, 1, 3, 2))
			differ(t, within(rect(-9, -9, 99, 99), s), nil)
			moved(t, of(s), nil, 5)
			moved(t, of(s), of(s, s), 5)
		}
	}
}

// P17.1: Frames of one row, one column, one place, two of each; great ones, and far out.
func TestOfFrames(t *testing.T) {
	for _, r := range rects(rect(0, 0, 5, 1), rect(0, 0, 1, 5), rect(7, -7, 1, 1), rect(0, 0, 5, 2), rect(0, 0, 2, 5), rect(side-1, side-1, 1, 1), rect(-side, -side, 1, 1)) {
		differ(t, of(frame(r.At.X, r.At.Y, r.Size.W, r.Size.H)), nil, r)
	}
	differ(t, of(frame(2, 3, 5, 4)), nil, rect(2, 3, 5, 1), rect(2, 4, 1, 2), rect(6, 4, 1, 2), rect(2, 6, 5, 1))
	differ(t, of(frame(2, 3, 5, 4)), of(frame(2, 3, 4, 4)), rect(2, 3, 5, 1), rect(2, 4, 1, 2), rect(5, 4, 2, 2), rect(2, 6, 5, 1))
	all := frame(-side, -side, 2*side, 2*side)
	differ(t, of(all), nil, rect(-side, -side, 2*side, 1), rect(-side, 1-side, 1, 2*side-2), rect(side-1, 1-side, 1, 2*side-2), rect(-side, side-1, 2*side, 1))
	f := fill(-side, -side, 2*side, 2*side)
	differ(t, of(f), nil, f.Rect)
	differ(t, of(f, all), nil, f.Rect)
}

// P17.1: Frames cut by a clip to each of their sides, to two and three of them, and to nothing.
func TestOfCutFrames(t *testing.T) {
	f := frame(0, 0, 5, 5)
	for _, one := range []struct {
		clip api.Rect
		want []api.Rect
	}{
		{rect(1, 1, 3, 3), nil},
		{rect(5, 0, 3, 3), nil},
		{rect(0, 0, 0, 3), nil},
		{rect(1, 0, 3, 3), rects(rect(1, 0, 3, 1))},
		{rect(0, 1, 3, 3), rects(rect(0, 1, 1, 3))},
		{rect(1, 1, 9, 3), rects(rect(4, 1, 1, 3))},
		{rect(1, 1, 3, 9), rects(rect(1, 4, 3, 1))},
		{rect(0, 0, 3, 3), rects(rect(0, 0, 3, 1), rect(0, 1, 1, 2))},
		{rect(0, 1, 9, 3), rects(rect(0, 1, 1, 3), rect(4, 1, 1, 3))},
		{rect(1, 0, 3, 9), rects(rect(1, 0, 3, 1), rect(1, 4, 3, 1))},
		{rect(3, 3, 3, 3), rects(rect(4, 3, 1, 1), rect(3, 4, 2, 1))},
		{rect(0, 0, 9, 3), rects(rect(0, 0, 5, 1), rect(0, 1, 1, 2), rect(4, 1, 1, 2))},
		{rect(0, 2, 9, 9), rects(rect(0, 2, 1, 2), rect(4, 2, 1, 2), rect(0, 4, 5, 1))},
		{rect(4, 4, 1, 1), rects(rect(4, 4, 1, 1))},
	} {
		differ(t, within(one.clip, f), nil, one.want...)
		differ(t, within(one.clip, f, f), within(one.clip, f), one.want...)
		differ(t, within(one.clip, f), within(one.clip, f))
	}
	// what stays of the same Frame in two clips is both
	differ(t, within(rect(0, 0, 5, 2), f), within(rect(0, 0, 5, 1), f), rect(0, 0, 5, 1), rect(0, 1, 1, 1), rect(4, 1, 1, 1))
}

// P17.1: the form has each place once, and puts pieces together that touch.
func TestOfForm(t *testing.T) {
	differ(t, of(fill(0, 0, 2, 2)), of(fill(1, 1, 2, 2)), rect(0, 0, 2, 1), rect(0, 1, 3, 1), rect(1, 2, 2, 1))
	differ(t, of(fill(0, 0, 2, 2), fill(2, 0, 2, 2)), of(write(0, 2, 4, 1, "x")), rect(0, 0, 4, 3))
	differ(t, of(fill(5, 5, 1, 1), fill(0, 0, 1, 1)), of(fill(3, 0, 1, 1)), rect(0, 0, 1, 1), rect(3, 0, 1, 1), rect(5, 5, 1, 1))
	differ(t, of(fill(-9, -9, 1, 1)), of(fill(-9, -8, 1, 1)), rect(-9, -9, 1, 2))
}
