package list

import (
	"math"
	"slices"
	"strings"
	"testing"

	"casement/api"
)

// kinds are a stroke of each kind, the Open with a Clip ahead of it: what stands ahead, the stroke, what stands behind.
func kinds() [][3][]api.Stroke {
	return [][3][]api.Stroke{
		{nil, of(fill(1, 2, 3, 4)), nil},
		{nil, of(frame(1, 2, 3, 4)), nil},
		{nil, of(write(1, 2, 3, 4, "x")), nil},
		{nil, of(clipped(1, 2, 3, 4)), of(open())},
		{of(clipped(1, 2, 3, 4)), of(open()), nil},
	}
}

// changed is a list of a stroke of a kind, which was changed.
func changed(kind uint8, change func(s *api.Stroke)) []api.Stroke {
	l := kinds()[kind-1]
	change(&l[1][0])
	return slices.Concat(l[0], l[1], l[2])
}

func checked(t *testing.T, what string, l []api.Stroke, want api.Errno) {
	t.Helper()
	if e := Check(l); e != want {
		t.Errorf("%s: %d, not %d", what, e, want)
	}
	if e := modelCheck(l); e != want {
		t.Errorf("%s: the model says %d, not %d", what, e, want)
	}
}

// P13.1: each kind of stroke may be, and others may not; whose Node is from 0 to 2^20.
func TestCheckKindAndNode(t *testing.T) {
	for kind := api.Fill; kind <= api.Open; kind++ {
		checked(t, "a stroke", changed(kind, func(s *api.Stroke) {}), api.OK)
		for _, wrong := range []uint8{0, 6, 255} {
			if kind < api.Clip { // without the pair nothing else is wrong
				checked(t, "a kind", changed(kind, func(s *api.Stroke) { s.Kind = wrong }), api.ErrArg)
			}
			checked(t, "a kind alone", of(api.Stroke{Kind: wrong}), api.ErrArg)
		}
		for node, e := range map[int]api.Errno{
			-1: api.ErrArg, 0: api.OK, 1: api.OK, 1 << 20: api.OK, 1<<20 + 1: api.ErrArg, math.MaxInt: api.ErrArg, math.MinInt: api.ErrArg,
		} {
			checked(t, "a node", changed(kind, func(s *api.Stroke) { s.Node = node }), e)
		}
	}
}

// P13.1: a Write's Text has at most MaxText bytes, whatever they are; the others have none.
func TestCheckText(t *testing.T) {
	for text, e := range map[string]api.Errno{
		"": api.OK, "x": api.OK, "\xff\xfe\x80": api.OK, "\x00\n\x1b": api.OK, "\xed\xa0\x80": api.OK,
		strings.Repeat("x", api.MaxText):        api.OK,
		strings.Repeat("x", api.MaxText+1):      api.ErrArg,
		strings.Repeat("\xff", api.MaxText):     api.OK,
		strings.Repeat("\xff", api.MaxText+1):   api.ErrArg,
		strings.Repeat("\u4e00", api.MaxText/3): api.OK, // 3 bytes each
		strings.Repeat("\u4e00", api.MaxText/2): api.ErrArg,
	} {
		for kind := api.Fill; kind <= api.Open; kind++ {
			want := e
			if kind != api.Write && text != "" {
				want = api.ErrArg
			}
			checked(t, "a text", changed(kind, func(s *api.Stroke) { s.Text = text }), want)
		}
	}
}

// P13.1: each field that must be zero, number by number, in each kind.
func TestCheckZeroFields(t *testing.T) {
	numbers := func(c *api.Colour) []*uint8 { return []*uint8{&c.R, &c.G, &c.B, &c.A} }
	for kind := api.Fill; kind <= api.Open; kind++ {
		for i := range 4 {
			want := api.ErrArg
			if kind == api.Write {
				want = api.OK
			}
			checked(t, "a back", changed(kind, func(s *api.Stroke) { s.Back = api.Colour{}; *numbers(&s.Back)[i] = 1 }), want)
			if kind == api.Fill || kind == api.Frame {
				want = api.OK
			}
			checked(t, "a colour", changed(kind, func(s *api.Stroke) { s.Colour = api.Colour{}; *numbers(&s.Colour)[i] = 1 }), want)
		}
		checked(t, "no colours", changed(kind, func(s *api.Stroke) { s.Colour, s.Back = api.Colour{}, api.Colour{} }), api.OK)
		for _, r := range rects(rect(1, 0, 0, 0), rect(0, 1, 0, 0), rect(0, 0, 1, 0), rect(0, 0, 0, 1)) {
			want := api.OK
			if kind == api.Open {
				want = api.ErrArg
			}
			checked(t, "a rectangle", changed(kind, func(s *api.Stroke) { s.Rect = r }), want)
		}
		checked(t, "no rectangle", changed(kind, func(s *api.Stroke) { s.Rect = api.Rect{} }), api.OK)
	}
}

// wrongRects are such as may not be, each for one reason.
func wrongRects() []api.Rect {
	return rects(
		rect(0, 0, -1, 5), rect(0, 0, 5, -1), rect(-side-1, 0, 0, 0), rect(0, -side-1, 0, 0), rect(side, 0, 1, 1), rect(0, side, 1, 1),
		rect(side+1, 0, 0, 0), rect(0, side+1, 0, 0), rect(-side, 0, 2*side+1, 1), rect(0, -side, 1, 2*side+1),
		rect(math.MaxInt, 0, 1, 1), rect(0, math.MinInt, 1, 1), rect(1, 0, math.MaxInt, 1), rect(0, 0, 1, math.MinInt),
	)
}

// P13.1: a Rect that may not be, in each kind (of an Open it is not zero), and what is wrong beside it first.
func TestCheckRect(t *testing.T) {
	for kind := api.Fill; kind <= api.Open; kind++ {
		for _, r := range wrongRects() {
			want := api.ErrRect
			if kind == api.Open {
				want = api.ErrArg
			}
			checked(t, "a rectangle", changed(kind, func(s *api.Stroke) { s.Rect = r }), want)
			for i, wrong := range []func(s *api.Stroke){
				func(s *api.Stroke) { s.Node = -1 },
				func(s *api.Stroke) { s.Node = 1<<20 + 1 },
				func(s *api.Stroke) { s.Text = strings.Repeat("x", api.MaxText+1) },
				func(s *api.Stroke) { s.Kind = 6 },
				func(s *api.Stroke) { s.Kind, s.Text = api.Fill, "x" },
				func(s *api.Stroke) { s.Kind, s.Text, s.Back = api.Frame, "", inked(0) },
				func(s *api.Stroke) { s.Kind, s.Text, s.Back, s.Colour = api.Clip, "", api.Colour{}, inked(1) },
			} {
				if l := changed(kind, func(s *api.Stroke) { s.Rect = r; wrong(s) }); Check(l) != api.ErrArg {
					t.Errorf("%d, %v, %d: %d", kind, r, i, Check(l))
				}
			}
		}
		for _, r := range rects(rect(-side, -side, 2*side, 2*side), rect(side, side, 0, 0), rect(-side, side, 2*side, 0), rect(3, 3, 0, 5), rect(side-1, side-1, 1, 1)) {
			if kind != api.Open {
				checked(t, "a rectangle", changed(kind, func(s *api.Stroke) { s.Rect = r }), api.OK)
			}
		}
	}
}

// P13.1: clips that are closed, and such as are not.
func TestCheckClips(t *testing.T) {
	f, c, o := fill(0, 0, 4, 4), clipped(0, 0, 2, 2), open()
	for i, l := range [][]api.Stroke{
		nil, {}, {f}, {c, o}, {c, f, o}, {c, c, o, o}, {c, f, c, f, o, f, o, f}, {c, o, c, o}, {c, c, o, c, o, o}, {clipped(0, 0, 0, 0), o},
		{c, clipped(9, 9, 1, 1), f, o, o}, slices.Concat(slices.Repeat(of(c), 100), slices.Repeat(of(o), 100)),
		slices.Concat(slices.Repeat(of(c), api.MaxStrokes/2), slices.Repeat(of(o), api.MaxStrokes/2)),
	} {
		if e := Check(l); e != api.OK {
			t.Errorf("%d: %d", i, e)
		}
	}
	for i, l := range [][]api.Stroke{
		{o}, {f, o}, {c}, {c, f}, {c, o, o}, {c, o, o, c}, {o, c}, {c, c, o}, {c, o, c}, {c, c, o, o, o, c}, {f, c, f, o, f, o, f},
		slices.Concat(slices.Repeat(of(c), 101), slices.Repeat(of(o), 100)), slices.Concat(slices.Repeat(of(c), 100), slices.Repeat(of(o), 101)),
		slices.Repeat(of(c), api.MaxStrokes), slices.Repeat(of(o), api.MaxStrokes),
	} {
		if e := Check(l); e != api.ErrClip {
			t.Errorf("%d, not closed: %d", i, e)
		}
	}
}

// P13.1: of several things that are wrong the first one in the list, and in one stroke first what it may not be, then its Rect, then the clip.
func TestCheckFirst(t *testing.T) {
	f, c, o := fill(0, 0, 4, 4), clipped(0, 0, 2, 2), open()
	arg, broken, odd := api.Stroke{Kind: api.Fill, Node: -1}, fill(0, 0, -1, 1), api.Stroke{Kind: api.Open, Node: -1}
	lost := api.Stroke{Kind: api.Open, Rect: rect(0, 0, -1, 0)}
	for i, one := range []struct {
		l []api.Stroke
		e api.Errno
	}{
		{of(arg, broken), api.ErrArg}, {of(broken, arg), api.ErrRect}, {of(f, broken, arg, o), api.ErrRect},
		{of(o, arg), api.ErrClip}, {of(o, broken), api.ErrClip}, {of(arg, o), api.ErrArg}, {of(broken, o), api.ErrRect},
		{of(odd), api.ErrArg}, {of(lost), api.ErrArg}, {of(c, odd), api.ErrArg}, {of(c, o, odd), api.ErrArg},
		{of(c, arg), api.ErrArg}, {of(c, broken), api.ErrRect}, {of(c, f, f), api.ErrClip}, {of(c, o, o, broken, arg), api.ErrClip},
		{of(c, api.Stroke{Kind: api.Clip, Rect: rect(0, 0, -1, 1)}), api.ErrRect},
	} {
		if e := Check(one.l); e != one.e || modelCheck(one.l) != one.e {
			t.Errorf("%d: %d, not %d", i, e, one.e)
		}
	}
}

// P13.1: MaxStrokes strokes and one more, which is asked ahead of all strokes.
func TestCheckMany(t *testing.T) {
	f, arg, c, o := fill(0, 0, 4, 4), api.Stroke{Kind: api.Fill, Node: -1}, clipped(0, 0, 2, 2), open()
	for i, one := range []struct {
		l []api.Stroke
		e api.Errno
	}{
		{slices.Repeat(of(f), api.MaxStrokes), api.OK},
		{slices.Repeat(of(f), api.MaxStrokes+1), api.ErrMany},
		{slices.Repeat(of(c, o), api.MaxStrokes/2), api.OK},
		{append(slices.Repeat(of(c, o), api.MaxStrokes/2), f), api.ErrMany},
		{slices.Repeat(of(arg), api.MaxStrokes), api.ErrArg},
		{slices.Repeat(of(arg), api.MaxStrokes+1), api.ErrMany},
		{slices.Repeat(of(o), api.MaxStrokes+1), api.ErrMany},
		{append(slices.Repeat(of(f), api.MaxStrokes-1), arg), api.ErrArg},
		{append(slices.Repeat(of(f), api.MaxStrokes-1), o), api.ErrClip},
	} {
		if e := Check(one.l); e != one.e {
			t.Errorf("%d: %d, not %d", i, e, one.e)
		}
	}
}
