package list

import (
	"slices"
	"testing"

	"casement/api"
)

// P13.4: strokes that show nowhere, of each kind, are left out.
func TestNormShowsNowhere(t *testing.T) {
	f := fill(0, 0, 4, 4)
	for _, gone := range of(
		thin(fill(0, 0, 2, 2), 0), thin(frame(0, 0, 2, 2), 0), write(0, 0, 2, 2, ""),
		fill(3, 3, 0, 5), fill(3, 3, 5, 0), frame(3, 3, 0, 0), write(3, 3, 0, 1, "x"), fill(side, side, 0, 0), fill(-side, -side, 0, 0),
	) {
		norm(t, of(gone), nil)
		norm(t, of(gone, f, gone), of(f))
		norm(t, within(rect(0, 0, 9, 9), gone), nil)
	}
	for _, a := range []uint8{1, 254, 255} {
		for _, stays := range of(thin(fill(0, 0, 2, 2), a), thin(frame(0, 0, 2, 2), a)) {
			norm(t, of(stays), of(stays))
		}
	}
	// a Write that has a Text shows, whatever its colours
	bare := api.Stroke{Kind: api.Write, Rect: rect(0, 0, 1, 1), Text: "x"}
	norm(t, of(bare), of(bare))
	// within a clip that leaves nothing of them
	c := rect(0, 0, 2, 2)
	norm(t, within(c, fill(2, 0, 2, 2), frame(0, 2, 2, 2), write(-2, -2, 2, 2, "x")), nil)
	norm(t, within(c, fill(2, 0, 2, 2), f), within(c, f))
	norm(t, slices.Concat(of(clip(c)), within(rect(2, 2, 9, 9), f), of(f, open())), within(c, f))
	norm(t, within(rect(3, 3, 0, 9), f), nil)
}

// P13.4: what hides a stroke is one opaque Fill behind it, and nothing else does.
func TestNormHidden(t *testing.T) {
	f := fill(1, 1, 4, 4)
	norm(t, of(f, f), of(f))
	for _, s := range of(fill(2, 2, 1, 1), thin(fill(1, 1, 4, 4), 9), thin(fill(1, 1, 4, 4), 254), frame(1, 1, 4, 4), write(1, 4, 4, 1, "x")) {
		norm(t, of(s, f), of(f))
		norm(t, of(f, s), of(f, s))
		norm(t, of(s, thin(f, 254)), of(s, thin(f, 254)))
		norm(t, of(s, thin(f, 0)), of(s))
		norm(t, of(s, frame(1, 1, 4, 4)), of(s, frame(1, 1, 4, 4)))
		norm(t, of(s, write(1, 1, 4, 4, "x")), of(s, write(1, 1, 4, 4, "x")))
	}
	// one place too many on each side
	for _, s := range of(fill(0, 1, 2, 1), fill(1, 0, 1, 2), fill(4, 1, 2, 1), fill(1, 4, 1, 2), fill(0, 0, 9, 9), fill(7, 7, 1, 1), frame(0, 0, 6, 6)) {
		norm(t, of(s, f), of(s, f))
	}
	// far out, where sides end
	all := fill(-side, -side, 2*side, 2*side)
	norm(t, of(fill(side-1, side-1, 1, 1), frame(-side, -side, 2*side, 2*side), write(-side, side-1, 9, 1, "x"), all), of(all))
}

// P13.4: what counts is where both show, not where their Rects lie.
func TestNormHiddenWithinClips(t *testing.T) {
	c, f := rect(0, 0, 2, 2), fill(0, 0, 9, 9)
	// within a clip alone: the clip cuts what is hidden
	norm(t, slices.Concat(within(c, f), of(fill(0, 0, 2, 2))), of(fill(0, 0, 2, 2)))
	norm(t, slices.Concat(within(c, write(1, 1, 9, 9, "x"), f), of(fill(0, 0, 2, 1))), slices.Concat(within(c, f), of(fill(0, 0, 2, 1))))
	// by a Fill behind it within a clip of its own
	norm(t, slices.Concat(of(fill(0, 0, 2, 2)), within(c, f)), within(c, f))
	norm(t, slices.Concat(of(fill(0, 0, 3, 2)), within(c, f)), slices.Concat(of(fill(0, 0, 3, 2)), within(c, f)))
	// by one that shows nowhere: not
	norm(t, slices.Concat(of(f), within(rect(10, 0, 2, 2), f)), of(f))
	norm(t, slices.Concat(of(f), within(rect(0, 0, 0, 2), f)), of(f))
	// both within clips, that are not the same
	norm(t, slices.Concat(within(rect(0, 0, 5, 1), f), within(rect(1, 0, 5, 5), f)), slices.Concat(within(rect(0, 0, 5, 1), f), within(rect(1, 0, 5, 5), f)))
	norm(t, slices.Concat(within(rect(1, 1, 5, 1), f), within(rect(1, 0, 5, 5), f)), within(rect(1, 0, 5, 5), f))
	// in one clip
	norm(t, within(c, f, fill(0, 0, 2, 2)), within(c, fill(0, 0, 2, 2)))
}

// P13.4: several Fills that hide a stroke together do not.
func TestNormHiddenTogether(t *testing.T) {
	s := fill(0, 0, 4, 2)
	for _, l := range [][]api.Stroke{
		of(s, fill(0, 0, 2, 2), fill(2, 0, 2, 2)),
		of(s, fill(0, 0, 3, 2), fill(1, 0, 3, 2)),
		of(s, fill(0, 0, 4, 1), fill(0, 1, 4, 1)),
		of(frame(0, 0, 4, 4), fill(0, 0, 4, 1), fill(0, 1, 1, 2), fill(3, 1, 1, 2), fill(0, 3, 4, 1)),
		of(frame(0, 0, 4, 4), fill(1, 1, 2, 2)),
	} {
		norm(t, l, l)
	}
}

// P13.4: of a Frame the border counts alone, as far as it shows.
func TestNormHiddenFrames(t *testing.T) {
	f := frame(0, 0, 9, 9)
	for _, one := range []struct {
		clip, fill api.Rect
		hidden     bool
	}{
		{rect(0, 1, 5, 3), rect(0, 1, 1, 3), true}, // its middle shows nothing: the border is hidden, that is all
		{rect(0, 1, 5, 3), rect(0, 1, 1, 2), false},
		{rect(0, 1, 5, 3), rect(1, 1, 4, 3), false},
		{rect(1, 0, 3, 5), rect(1, 0, 3, 1), true},
		{rect(1, 0, 3, 5), rect(1, 0, 2, 1), false},
		{rect(3, 3, 9, 3), rect(8, 3, 1, 3), true},
		{rect(3, 3, 3, 9), rect(3, 8, 3, 1), true},
		{rect(3, 3, 3, 9), rect(3, 3, 3, 5), false},
		{rect(0, 0, 9, 5), rect(0, 0, 9, 5), true},
		{rect(0, 0, 9, 5), rect(0, 0, 9, 1), false},
		{rect(0, 3, 9, 3), rect(0, 3, 9, 3), true}, // the first column and the last one, and so what lies between
		{rect(0, 3, 9, 3), rect(0, 3, 8, 3), false},
		{rect(0, 0, 2, 9), rect(0, 0, 2, 9), true},
		{rect(0, 0, 1, 1), rect(0, 0, 1, 1), true},
	} {
		q := fill(one.fill.At.X, one.fill.At.Y, one.fill.Size.W, one.fill.Size.H)
		want := append(within(one.clip, f), q)
		if one.hidden {
			want = of(q)
		}
		norm(t, append(within(one.clip, f), q), want)
	}
}

// P13.4: a Fill hides what it hides in l, also where it is left out itself.
func TestNormHiddenByTheHidden(t *testing.T) {
	a, b, c := fill(2, 2, 1, 1), fill(1, 1, 3, 3), fill(0, 0, 5, 5)
	norm(t, of(a, b, c), of(c))
	norm(t, of(b, a, c), of(c))
	norm(t, of(c, b, a), of(c, b, a))
	norm(t, of(a, c, b), of(c, b))
	norm(t, of(b, c, a, b), of(c, b))
	norm(t, of(a, a, a), of(a))
	norm(t, of(a, b, thin(c, 254), b), of(thin(c, 254), b))
	// a small one behind a great one goes on to hide nothing but what it has
	norm(t, of(b, a, fill(7, 7, 1, 1), a), of(b, fill(7, 7, 1, 1), a))
	norm(t, of(fill(7, 7, 1, 1), c, fill(7, 7, 1, 1), b), of(c, fill(7, 7, 1, 1), b))
}

// P13.4: idle pairs, within one another, behind one another, and such as come to be when others are left out.
func TestNormIdlePairs(t *testing.T) {
	c, d, o, f := clipped(0, 0, 2, 2), clipped(5, 5, 1, 1), open(), fill(0, 0, 9, 9)
	gone := thin(f, 0)
	for i, one := range []struct{ l, want []api.Stroke }{
		{of(c, o), nil},
		{of(c, d, o, o), nil},
		{of(c, o, d, o), nil},
		{of(c, d, o, d, o, o), nil},
		{of(c, f, o), of(c, f, o)},
		{of(c, o, f), of(f)},
		{of(f, c, o), of(f)},
		{of(c, d, o, f, o), of(c, f, o)},
		{of(c, f, d, o, o), of(c, f, o)},
		{of(c, d, f, o, o), nil}, // both have no place together
		{of(c, c, f, o, c, o, o), of(c, c, f, o, o)},
		{of(c, gone, o), nil},
		{of(c, gone, d, gone, o, gone, o, f), of(f)},
		{of(c, d, gone, o, f, o, d, gone, o), of(c, f, o)},
		{of(c, f, o, f), of(f)},
		{of(c, c, f, o, o, d, f, o, f), of(f)},
		{of(c, o, c, f, o, c, o), of(c, f, o)},
	} {
		if got, e := Norm(one.l); e != api.OK || !slices.Equal(got, one.want) {
			t.Errorf("%d: %v, %d; %v", i, got, e, one.want)
		}
	}
	half := api.MaxStrokes / 2
	norm(t, slices.Concat(slices.Repeat(of(c), half), slices.Repeat(of(o), half)), nil)
	norm(t, slices.Repeat(of(c, o), half), nil)
	norm(t, slices.Concat(slices.Repeat(of(c), half-1), of(gone, gone), slices.Repeat(of(o), half-1)), nil)
	deep := slices.Concat(slices.Repeat(of(c), half-1), of(f), slices.Repeat(of(o), half-1))
	norm(t, deep, deep)
}

// P13.4: clips that stay are as they were told, with their Node and their Rect; so are all other strokes.
func TestNormKeepsFields(t *testing.T) {
	c, o := api.Stroke{Kind: api.Clip, Rect: rect(-5, -5, 30, 30), Node: 7}, api.Stroke{Kind: api.Open, Node: 1 << 20}
	w := api.Stroke{Kind: api.Write, Rect: rect(-9, 0, 30, 1), Colour: inked(3), Back: inked(4), Text: "a\xff\nb", Node: 9}
	l := of(c, w, o)
	norm(t, l, l)
	inside(t, l, rects(rect(0, 0, 1, 1)), within(rect(0, 0, 1, 1), l...))
}

// P13.4: as many strokes as there may be, none of which hides another one, and each of which hides the next.
func TestNormMany(t *testing.T) {
	var row, grown []api.Stroke
	for i := range api.MaxStrokes {
		row = append(row, fill(2*(i%128), 2*(i/128), 1, 1))
		grown = append(grown, fill(0, 0, i+1, i+1))
	}
	norm(t, row, row)
	norm(t, grown, grown[api.MaxStrokes-1:])
	slices.Reverse(grown)
	norm(t, grown, grown)
}
