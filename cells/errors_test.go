package cells

import (
	"slices"
	"strings"
	"testing"

	"casement/api"
)

// asked is an argument, and what is wrong with it.
type asked[T any] struct {
	value T
	e     api.Errno
}

func firstOf(l ...api.Errno) api.Errno {
	for _, e := range l {
		if e != api.OK {
			return e
		}
	}
	return api.OK
}

// screens are such as may be, all of 4 by 2, and such as may not.
func screens() []asked[api.Screen] {
	dots := of("....", "....")
	changed := func(c api.Cell) api.Screen { return with(3, 1, c) }
	return []asked[api.Screen]{
		{dots, api.OK},
		{changed(left(0x4e00, red, none)), api.OK},
		{screen(4, 2, dots.Cells[:7]...), api.ErrCell},
		{screen(4, 2, append(slices.Clone(dots.Cells), plain('a'))...), api.ErrCell},
		{screen(4, 2), api.ErrCell},
		{screen(0, 0, dots.Cells...), api.ErrCell},
		{screen(-4, -2, dots.Cells...), api.ErrCell},
		{screen(side+1, 0), api.ErrCell},
		{changed(api.Cell{}), api.ErrCell},
		{changed(plain(0x4e00)), api.ErrCell},
		{changed(plain(0xd800)), api.ErrCell},
		{changed(right('a', none, none)), api.ErrCell},
	}
}

func lists() []asked[[]api.Stroke] {
	one := fill(rect(0, 0, 1, 1), red)
	return []asked[[]api.Stroke]{
		{nil, api.OK},
		{[]api.Stroke{one}, api.OK},
		{slices.Repeat([]api.Stroke{one}, api.MaxStrokes), api.OK},
		{slices.Repeat([]api.Stroke{one}, api.MaxStrokes+1), api.ErrMany},
		{[]api.Stroke{{}}, api.ErrArg},
		{[]api.Stroke{one, {Kind: api.Fill, Text: "a"}}, api.ErrArg},
		{[]api.Stroke{write(rect(0, 0, 1, 1), strings.Repeat("a", api.MaxText+1), red, red)}, api.ErrArg},
		{[]api.Stroke{fill(rect(0, 0, -1, 1), red)}, api.ErrRect},
		{[]api.Stroke{fill(rect(side, 0, 1, 1), red)}, api.ErrRect},
		{[]api.Stroke{one, open()}, api.ErrClip},
		{[]api.Stroke{clip(rect(0, 0, 1, 1)), one}, api.ErrClip},
	}
}

// someRuns are lists of runs for a screen of 4 by 2; alone is what Escapes finds wrong with them.
func someRuns() (l []asked[[]api.Run], alone []api.Errno) {
	ok, beyond, none := word(0, 0, "a"), word(3, 0, "ab"), api.Run{}
	many := slices.Repeat([]api.Run{ok}, api.MaxCells+1)
	return []asked[[]api.Run]{
		{nil, api.OK},
		{[]api.Run{ok}, api.OK},
		{many, api.ErrMany},
		{append(slices.Clone(many[1:]), none), api.ErrMany},
		{append([]api.Run{none}, many[1:]...), api.ErrMany},
		{append(slices.Clone(many[2:]), none), api.ErrCell},
		{[]api.Run{ok, beyond}, api.ErrCell},
		{[]api.Run{ok, none, ok}, api.ErrCell},
		{many[1:], api.OK},
	}, []api.Errno{
		api.OK, api.OK, api.ErrMany, api.ErrMany, api.ErrMany, api.ErrCell, api.OK, api.ErrCell,
		api.ErrMany, // its text is too long
	}
}

// P15.1, P15.2, P15.4, P15.6: a screen that may not be comes ahead of all else that is wrong; nothing stands beside an error.
func TestErrorsInTheirOrder(t *testing.T) {
	runs, _ := someRuns()
	for i, s := range screens() {
		if e := Check(s.value); e != s.e {
			t.Errorf("Check %d: %d", i, e)
		}
		if x, e := Text(s.value); e != s.e || e != api.OK && x != "" {
			t.Errorf("Text %d: %q, %d", i, x, e)
		}
		for _, p := range []asked[api.Point]{{point(0, 0), api.OK}, {point(4, 0), api.ErrCell}} {
			if c, e := At(s.value, p.value); e != firstOf(s.e, p.e) || e != api.OK && c != (api.Cell{}) {
				t.Errorf("At %d: %v, %d", i, c, e)
			}
		}
		for j, l := range lists() {
			if got, e := Draw(s.value, l.value); e != firstOf(s.e, l.e) || e != api.OK && !isZero(got) {
				t.Errorf("Draw %d, %d: %d", i, j, e)
			}
		}
		for j, l := range runs {
			if got, e := Put(s.value, l.value); e != firstOf(s.e, l.e) || e != api.OK && !isZero(got) {
				t.Errorf("Put %d, %d: %d", i, j, e)
			}
		}
		for j, other := range append(screens(), asked[api.Screen]{of("........"), api.ErrCell}) {
			if got, e := Runs(s.value, other.value); e != firstOf(s.e, other.e) || e != api.OK && got != nil {
				t.Errorf("Runs %d, %d: %v, %d", i, j, got, e)
			}
		}
		for _, x := range []asked[string]{{"a", api.OK}, {"a\xff", api.ErrCell}, {strings.Repeat("\xff", api.MaxAnswer+1), api.ErrText}} {
			at := 0
			if s.e == api.OK && x.e == api.ErrCell {
				at = 1
			}
			if got, n, e := Read(s.value, x.value); e != firstOf(s.e, x.e) || n != at || e != api.OK && !isZero(got) {
				t.Errorf("Read %d: %d, %d", i, n, e)
			}
		}
	}
}

// P15.5: too many runs, then a run that may not be, then too long a text.
func TestEscapesErrors(t *testing.T) {
	runs, alone := someRuns()
	for i, l := range runs {
		if got, e := Escapes(l.value); e != alone[i] || e != api.OK && got != "" {
			t.Errorf("Escapes %d: %d bytes, %d; %d", i, len(got), e, alone[i])
		}
	}
	long := run(0, 0, slices.Repeat([]api.Cell{plain('a')}, api.MaxAnswer)...)
	if _, e := Escapes([]api.Run{long}); e != api.ErrMany {
		t.Errorf("too long a text: %d", e)
	}
	if _, e := Escapes([]api.Run{long, {}}); e != api.ErrCell {
		t.Errorf("too long a text, and no run behind it: %d", e)
	}
}
