package list

import (
	"slices"
	"testing"

	"casement/api"
)

// P13.5: no rectangles, empty ones, such as touch or lie over one another: the region's form counts.
func TestWithinForm(t *testing.T) {
	f := fill(0, 0, 9, 9)
	inside(t, of(f), nil, nil)
	inside(t, of(f), []api.Rect{}, nil)
	inside(t, nil, rects(rect(0, 0, 1, 1)), nil)
	inside(t, of(f), rects(rect(0, 0, 0, 5), rect(3, 3, 0, 0)), nil)
	inside(t, of(f), rects(rect(0, 0, 2, 2)), within(rect(0, 0, 2, 2), f))
	// touching ones are one
	inside(t, of(f), rects(rect(2, 0, 2, 1), rect(0, 0, 2, 1), rect(4, 0, 1, 1)), within(rect(0, 0, 5, 1), f))
	inside(t, of(f), rects(rect(0, 1, 2, 1), rect(0, 0, 2, 1)), within(rect(0, 0, 2, 2), f))
	// at a corner they do not touch
	inside(t, of(f), rects(rect(1, 1, 1, 1), rect(0, 0, 1, 1)), slices.Concat(within(rect(0, 0, 1, 1), f), within(rect(1, 1, 1, 1), f)))
	// lying over one another, and one twice
	inside(t, of(f), rects(rect(0, 0, 2, 2), rect(1, 1, 2, 2), rect(0, 0, 2, 2)),
		slices.Concat(within(rect(0, 0, 2, 1), f), within(rect(0, 1, 3, 1), f), within(rect(1, 2, 2, 1), f)))
}

// P13.5: each rectangle has the strokes alone that show in it; the clip is that of the region, not of what shows.
func TestWithinStrokes(t *testing.T) {
	f, w, b := fill(0, 0, 2, 2), write(4, 0, 2, 1, "x"), frame(0, 0, 9, 9)
	l := of(f, w, b)
	inside(t, l, rects(rect(0, 0, 1, 1)), within(rect(0, 0, 1, 1), f, b))
	inside(t, l, rects(rect(1, 1, 1, 1)), within(rect(1, 1, 1, 1), f))
	inside(t, l, rects(rect(4, 0, 1, 5)), within(rect(4, 0, 1, 5), w, b))
	inside(t, l, rects(rect(4, 1, 2, 5)), nil)
	inside(t, l, rects(rect(2, 1, 5, 5)), nil)
	inside(t, l, rects(rect(-5, -5, 99, 99)), within(rect(-5, -5, 99, 99), l...))
	inside(t, l, rects(rect(8, 3, 1, 1)), within(rect(8, 3, 1, 1), b))
	inside(t, l, rects(rect(9, 3, 1, 1)), nil)
	inside(t, l, rects(rect(0, 0, 1, 1), rect(5, 0, 1, 1), rect(3, 3, 1, 1), rect(3, 8, 1, 1)),
		slices.Concat(within(rect(0, 0, 1, 1), f, b), within(rect(5, 0, 1, 1), w, b), within(rect(3, 8, 1, 1), b)))
	// strokes that show nowhere, anywhere
	for _, gone := range of(thin(f, 0), thin(b, 0), write(0, 0, 2, 2, ""), fill(0, 0, 0, 2), write(0, 0, 2, 0, "x")) {
		inside(t, of(gone), rects(rect(-9, -9, 30, 30)), nil)
		inside(t, of(gone, f, gone), rects(rect(0, 0, 1, 1)), within(rect(0, 0, 1, 1), f))
	}
	// hidden ones stay: Within is no Norm
	inside(t, of(f, f), rects(rect(0, 0, 1, 1)), within(rect(0, 0, 1, 1), f, f))
}

// P13.5: clips of the list stay within those of the region, but for idle ones.
func TestWithinClips(t *testing.T) {
	f, g := fill(0, 0, 9, 9), fill(0, 0, 1, 1)
	c := rect(0, 0, 3, 3)
	l := within(c, f)
	inside(t, l, rects(rect(2, 2, 5, 5)), within(rect(2, 2, 5, 5), l...))
	inside(t, l, rects(rect(3, 3, 5, 5)), nil)
	inside(t, of(clip(c), open(), f), rects(rect(1, 1, 1, 1)), within(rect(1, 1, 1, 1), f))
	inside(t, slices.Concat(of(clip(c)), within(c, g), of(f, open())), rects(rect(0, 0, 1, 1)), within(rect(0, 0, 1, 1), slices.Concat(of(clip(c)), within(c, g), of(f, open()))...))
	inside(t, slices.Concat(of(clip(c)), within(c, g), of(f, open())), rects(rect(1, 0, 1, 1)), within(rect(1, 0, 1, 1), clip(c), f, open()))
	// a clip of the list may be the region's own
	inside(t, within(rect(1, 1, 1, 1), f), rects(rect(1, 1, 1, 1)), within(rect(1, 1, 1, 1), within(rect(1, 1, 1, 1), f)...))
	// its Frame counts by its own Rect, not by what the region leaves of it
	inside(t, within(c, frame(0, 0, 9, 9)), rects(rect(1, 1, 2, 2)), nil)
	inside(t, within(c, frame(0, 0, 9, 9)), rects(rect(0, 2, 2, 2)), within(rect(0, 2, 2, 2), clip(c), frame(0, 0, 9, 9), open()))
	inside(t, slices.Repeat(of(clip(c), open()), api.MaxStrokes/2), rects(rect(0, 0, 1, 1), rect(2, 2, 1, 1)), nil)
}

// P13.5: the region's Clip has the Node 0, whatever the list's nodes are.
func TestWithinOwnClip(t *testing.T) {
	f := fill(0, 0, 9, 9)
	f.Node = 5
	l, e := Within(of(f), rects(rect(1, 1, 2, 2)))
	if want := of(api.Stroke{Kind: api.Clip, Rect: rect(1, 1, 2, 2)}, f, api.Stroke{Kind: api.Open}); e != api.OK || !slices.Equal(l, want) {
		t.Errorf("%v, %d", l, e)
	}
}

// places are rectangles of one place, n of them, none of which touches another one.
func places(n int) []api.Rect {
	var all []api.Rect
	for _, s := range apart(n) {
		all = append(all, s.Rect)
	}
	return all
}

// P13.5: region.Of's errors; answers of just MaxStrokes strokes, and of more; idle pairs do not count.
func TestWithinErrors(t *testing.T) {
	f := fill(0, 0, 200, 200)
	var long []api.Rect // a form of more than MaxRects
	for _, s := range lattice(32, 32) {
		long = append(long, s.Rect)
	}
	sixty := slices.Repeat(of(f), 62) // and its clip: 64 strokes
	first := fill(0, 0, 1, 1)
	for i, one := range []struct {
		l []api.Stroke
		r []api.Rect
		e api.Errno
		n int
	}{
		{of(f), rects(rect(0, 0, -1, 1)), api.ErrRect, 0},
		{of(f), rects(rect(0, 0, 1, 1), rect(side, 0, 1, 1)), api.ErrRect, 0},
		{nil, rects(rect(0, 0, -1, 1)), api.ErrRect, 0},
		{of(f), places(1024), api.OK, 3072},
		{of(f), places(1025), api.ErrMany, 0},
		{nil, places(1024), api.OK, 0},
		{nil, places(1025), api.ErrMany, 0},
		{nil, make([]api.Rect, 1025), api.ErrMany, 0},
		{nil, slices.Repeat(rects(rect(0, 0, -1, 1)), 1025), api.ErrMany, 0},
		{nil, long, api.ErrMany, 0},
		{of(fill(-9, -9, 1, 1)), long, api.ErrMany, 0},
		{sixty, places(256), api.OK, api.MaxStrokes},
		{append(slices.Clone(sixty), first), places(256), api.ErrMany, 0},
		{append(slices.Clone(sixty), fill(190, 190, 1, 1), thin(f, 0)), places(256), api.OK, api.MaxStrokes},
		{append(slices.Clone(sixty), clipped(0, 0, 200, 200), open()), places(256), api.OK, api.MaxStrokes},
		{sixty, places(257), api.ErrMany, 0},
		{slices.Repeat(of(f), api.MaxStrokes-2), places(1), api.OK, api.MaxStrokes},
		{slices.Repeat(of(f), api.MaxStrokes-1), places(1), api.ErrMany, 0},
		{slices.Repeat(of(f), api.MaxStrokes), places(1), api.ErrMany, 0},
		{append(slices.Repeat(of(fill(1, 1, 1, 1)), api.MaxStrokes-1), f), places(1024), api.OK, 3072},
		{append(slices.Repeat(of(first), api.MaxStrokes-1), f), places(1024), api.ErrMany, 0},
	} {
		got, e := Within(one.l, one.r)
		if e != one.e || len(got) != one.n || e != api.OK && got != nil {
			t.Errorf("%d: %d strokes, %d; %d, %d", i, len(got), e, one.n, one.e)
		}
		if e == api.OK && Check(got) != api.OK {
			t.Errorf("%d: no drawing list: %d", i, Check(got))
		}
	}
}
