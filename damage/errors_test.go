package damage

import (
	"slices"
	"strings"
	"testing"

	"casement/api"
)

// asked is an argument, and what is wrong with it.
type asked[T any] struct {
	value T
	e     api.Errno
}

func firstOf(l ...api.Errno) api.Errno {
	for _, e := range l {
		if e != api.OK {
			return e
		}
	}
	return api.OK
}

func lists() []asked[[]api.Stroke] {
	one := fill(0, 0, 1, 1)
	return []asked[[]api.Stroke]{
		{nil, api.OK},
		{of(one), api.OK},
		{within(rect(0, 0, 1, 1), one, frame(0, 0, 2, 2)), api.OK},
		{slices.Repeat(of(one), api.MaxStrokes), api.OK},
		{slices.Repeat(of(one), api.MaxStrokes+1), api.ErrMany},
		{append(slices.Repeat(of(one), api.MaxStrokes), api.Stroke{}), api.ErrMany},
		{of(api.Stroke{}), api.ErrArg},
		{of(one, api.Stroke{Kind: 6}), api.ErrArg},
		{of(by(-1, one)), api.ErrArg},
		{of(by(1<<20+1, one)), api.ErrArg},
		{of(one, api.Stroke{Kind: api.Fill, Text: "a"}), api.ErrArg},
		{of(api.Stroke{Kind: api.Frame, Back: red}), api.ErrArg},
		{of(in(red, clip(0, 0, 1, 1)), open()), api.ErrArg},
		{of(write(0, 0, 1, 1, strings.Repeat("a", api.MaxText+1))), api.ErrArg},
		{of(fill(0, 0, -1, 1)), api.ErrRect},
		{of(fill(side, 0, 1, 1), api.Stroke{}), api.ErrRect},
		{of(one, open()), api.ErrClip},
		{of(clip(0, 0, 1, 1), one), api.ErrClip},
		{of(open(), api.Stroke{}), api.ErrClip},
	}
}

// P17.1, P17.4: a's error, then b's; nothing stands beside one.
func TestErrorsOfLists(t *testing.T) {
	seen := map[api.Errno]int{}
	for i, a := range lists() {
		for j, b := range lists() {
			want := firstOf(a.e, b.e)
			got, e := Of(a.value, b.value)
			if e != want || e != api.OK && got != nil {
				t.Errorf("Of of %d and %d: %s, %d; %d", i, j, brief(got), e, want)
			}
			names, e := Nodes(a.value, b.value)
			if e != want || e != api.OK && names != nil {
				t.Errorf("Nodes of %d and %d: %s, %d; %d", i, j, brief(names), e, want)
			}
			seen[e]++
		}
	}
	for _, e := range []api.Errno{api.OK, api.ErrMany, api.ErrArg, api.ErrRect, api.ErrClip} {
		if seen[e] < 10 {
			t.Errorf("%d came %d times", e, seen[e])
		}
	}
}

// screens are such as may be, all of 2 by 2, and such as may not.
func screens() []asked[api.Screen] {
	s := dyed(size(2, 2))
	changed := func(c api.Cell) api.Screen { return with(s, map[api.Point]api.Cell{point(1, 1): c}) }
	return []asked[api.Screen]{
		{s, api.OK},
		{changed(bare), api.OK},
		{api.Screen{Size: s.Size, Cells: s.Cells[:3]}, api.ErrCell},
		{api.Screen{Size: s.Size, Cells: append(slices.Clone(s.Cells), bare)}, api.ErrCell},
		{api.Screen{Size: s.Size}, api.ErrCell},
		{api.Screen{Cells: s.Cells}, api.ErrCell},
		{api.Screen{Size: size(-2, -2), Cells: s.Cells}, api.ErrCell},
		{api.Screen{Size: size(side+1, 0)}, api.ErrCell},
		{api.Screen{Size: size(512, 513), Cells: slices.Repeat([]api.Cell{bare}, 512*513)}, api.ErrCell},
		{changed(api.Cell{}), api.ErrCell},
		{changed(api.Cell{Rune: 'a', Wide: true}), api.ErrCell},
		{changed(api.Cell{Rune: 0x4e00}), api.ErrCell},
	}
}

func regions() []asked[[]api.Rect] {
	one, wrong := rect(0, 0, 1, 1), rect(0, 0, -1, 1)
	many := slices.Repeat(rects(one), api.MaxRects+1)
	return []asked[[]api.Rect]{
		{nil, api.OK},
		{rects(one, one, rect(9, 9, 1, 1)), api.OK},
		{rects(api.Rect{}, rect(side, side, 0, 0)), api.OK},
		{many[1:], api.OK},
		{many, api.ErrMany},
		{append(slices.Clone(many[1:]), wrong), api.ErrMany},
		{append(rects(wrong), many[1:]...), api.ErrMany},
		{append(rects(wrong), many[2:]...), api.ErrRect},
		{rects(wrong), api.ErrRect},
		{rects(one, wrong, one), api.ErrRect},
		{rects(rect(side, 0, 1, 1)), api.ErrRect},
		{rects(rect(side+1, 0, 0, 0)), api.ErrRect},
		{rects(rect(0, -side-1, 1, 1)), api.ErrRect},
		{rects(rect(1, 0, 1<<63-1, 1)), api.ErrRect},
	}
}

// P17.2: the screen's error, then the list's, then that of how many rectangles there are, then theirs.
func TestErrorsOfMend(t *testing.T) {
	seen := map[api.Errno]int{}
	for i, s := range screens() {
		for j, l := range lists() {
			for k, r := range regions() {
				want := firstOf(s.e, l.e, r.e)
				got, e := Mend(s.value, l.value, r.value)
				if e != want || e != api.OK && !isZero(got) || e == api.OK && got.Size != s.value.Size {
					t.Errorf("Mend of %d, %d, %d: %s, %d; %d", i, j, k, briefScreen(got), e, want)
				}
				seen[e]++
			}
		}
	}
	for _, e := range []api.Errno{api.OK, api.ErrCell, api.ErrMany, api.ErrArg, api.ErrRect, api.ErrClip} {
		if seen[e] < 10 {
			t.Errorf("%d came %d times", e, seen[e])
		}
	}
}

// P17.3: the screens' errors, then that of their sizes.
func TestErrorsOfChanged(t *testing.T) {
	other := asked[api.Screen]{dyed(size(4, 1)), api.OK}
	for i, a := range append(screens(), other) {
		for j, b := range append(screens(), other) {
			want := firstOf(a.e, b.e)
			if a.value.Size != b.value.Size {
				want = api.ErrCell
			}
			if got, e := Changed(a.value, b.value); e != want || e != api.OK && got != nil {
				t.Errorf("Changed of %d and %d: %s, %d; %d", i, j, brief(got), e, want)
			}
		}
	}
}
