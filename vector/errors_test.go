package vector

import (
	"runtime"
	"slices"
	"strings"
	"testing"

	"casement/api"
	"casement/cells"
	"casement/list"
)

// asked is an argument, and what is wrong with it.
type asked[T any] struct {
	value T
	e     api.Errno
}

func firstOf(l ...api.Errno) api.Errno {
	for _, e := range l {
		if e != api.OK {
			return e
		}
	}
	return api.OK
}

// lists are such as may be and such as may not; long ones have a text that is too long.
func lists() (l, long []asked[[]api.Stroke]) {
	one := fill(rect(0, 0, 1, 1), red, 0)
	words := write(rect(0, 0, 1, 1), strings.Repeat("\n", api.MaxText), red, none, 0)
	ends := [][]api.Stroke{nil, {one}, {one, {}}, {one, {Kind: 6}}, {{Kind: api.Fill, Text: "x"}}, {{Kind: api.Frame, Back: red}}, {{Kind: api.Clip, Colour: red}, open(0)}, {clip(rect(0, 0, 1, 1), 0), {Kind: api.Open, Rect: rect(0, 0, 1, 1)}},
		{fill(rect(0, 0, 1, 1), red, -1)}, {fill(rect(0, 0, 1, 1), red, 1<<20+1)}, {write(rect(0, 0, 1, 1), strings.Repeat("x", api.MaxText+1), red, red, 0)}, {fill(rect(0, 0, -1, 1), red, 0)}, {fill(rect(side, 0, 1, 1), red, 0)}, {open(0)}, {clip(rect(0, 0, 1, 1), 0)}, {open(0), clip(rect(0, 0, 1, 1), 0)}, slices.Repeat([]api.Stroke{one}, api.MaxStrokes+1)}
	for _, x := range ends {
		l = append(l, asked[[]api.Stroke]{x, list.Check(x)})
		x = append([]api.Stroke{words}, x...)
		long = append(long, asked[[]api.Stroke]{x, list.Check(x)})
	}
	return l, long
}

// P16.1: the list's error, then the size's, then that the text is too long; nothing stands beside an error.
func TestErrorsOfText(t *testing.T) {
	short, long := lists()
	sizes := []asked[api.Size]{{size(0, 0), api.OK}, {size(side, side), api.OK}, {size(-1, 0), api.ErrSize}, {size(0, side+1), api.ErrSize}}
	seen := map[api.Errno]int{}
	for _, s := range sizes {
		for i, l := range short {
			got, e := Text(l.value, s.value)
			if e != firstOf(l.e, s.e) || (got == "") != (e != api.OK) {
				t.Errorf("Text of the list %d, %v: %d bytes, %d", i, s.value, len(got), e)
			}
			seen[e]++
		}
		for i, l := range long {
			got, e := Text(l.value, s.value)
			if e != firstOf(l.e, s.e, api.ErrText) || got != "" {
				t.Errorf("Text of the long list %d, %v: %d bytes, %d", i, s.value, len(got), e)
			}
			seen[e]++
		}
	}
	for _, e := range []api.Errno{api.OK, api.ErrArg, api.ErrRect, api.ErrClip, api.ErrMany, api.ErrSize, api.ErrText} {
		if seen[e] == 0 {
			t.Errorf("%d never came", e)
		}
	}
}

// ofLength is a list whose text has so many bytes, with the size 8 3, and that text.
func ofLength(n int) ([]api.Stroke, string) {
	empty := modelText([]api.Stroke{write(rect(0, 0, 1, 1), "", red, none, 0)}, size(8, 3))
	l := []api.Stroke{write(rect(0, 0, 1, 1), strings.Repeat("x", n-len(empty)), red, none, 0)}
	return l, modelText(l, size(8, 3))
}

// P16.1, P16.2: a text of MaxText bytes, and one of one more.
func TestLongest(t *testing.T) {
	l, text := ofLength(api.MaxText)
	bothWays(t, l, size(8, 3), text)
	if got, at, e := Screen(text, none); len(got.Cells) != 24 || at != 0 || e != api.OK {
		t.Errorf("Screen of MaxText bytes: %d, %d", at, e)
	}
	l, text = ofLength(api.MaxText + 1)
	if got, e := Text(l, size(8, 3)); len(text) != api.MaxText+1 || got != "" || e != api.ErrText {
		t.Errorf("Text of one more: %d bytes, %d", len(got), e)
	}
	if l, z, at, e := Read(text); !isNothing(l, z) || at != 0 || e != api.ErrText {
		t.Errorf("Read of one more: %d, %d", at, e)
	}
	if got, at, e := Screen(text, none); got.Cells != nil || at != 0 || e != api.ErrText {
		t.Errorf("Screen of one more: %d, %d", at, e)
	}
	// The same with many short lines, which grow byte by byte, and of which the last ones are beyond the bound.
	l = slices.Repeat([]api.Stroke{clip(rect(0, 0, 1, 1), 0), open(0)}, 1284)
	seen := 0
	for i := range 60 {
		l[2*i].Node = 10
		want := modelText(l, size(8, 3))
		if len(want) <= api.MaxText {
			bothWays(t, l, size(8, 3), want)
		} else if got, e := Text(l, size(8, 3)); got != "" || e != api.ErrText {
			t.Errorf("Text of %d bytes: %d", len(want), e)
		}
		if len(want) == api.MaxText || len(want) == api.MaxText+1 {
			seen++
		}
	}
	if seen != 2 {
		t.Errorf("MaxText and one more came %d times", seen)
	}
}

// P16.1: a text that is too long is not written to its end: a thousand times as many bytes take no such room.
func TestFarTooLong(t *testing.T) {
	one := write(rect(0, 0, 1, 1), strings.Repeat("\xff", api.MaxText), red, none, 0)
	l := slices.Repeat([]api.Stroke{one}, api.MaxStrokes)
	var before, after runtime.MemStats
	runtime.ReadMemStats(&before)
	if got, e := Text(l, size(8, 3)); got != "" || e != api.ErrText {
		t.Errorf("%d bytes, %d", len(got), e)
	}
	runtime.ReadMemStats(&after)
	if took := after.TotalAlloc - before.TotalAlloc; took > 64*api.MaxText {
		t.Errorf("%d bytes of room", took)
	}
}

// P16.2: a piece that is wrong far behind the beginning, up to the last byte that may be read.
func TestFarPlaces(t *testing.T) {
	_, text := ofLength(api.MaxText)
	ends := len("</write>\n" + tail)
	readIs(t, text[:api.MaxText-1], api.MaxText-len(tail), api.ErrVector)
	readIs(t, text[:api.MaxText-len(tail)], api.MaxText-len(tail), api.ErrVector)
	readIs(t, text[:api.MaxText-len(tail)]+strings.Repeat("x", len(tail)), api.MaxText-len(tail), api.ErrVector)
	readIs(t, text[:api.MaxText-ends-1]+" "+text[api.MaxText-ends:], api.MaxText-ends-1, api.ErrVector)
	readIs(t, text[:api.MaxText-ends], api.MaxText-ends, api.ErrVector)
	_, text = ofLength(api.MaxText - 1)
	readIs(t, text+"x", api.MaxText-1, api.ErrVector)
	readIs(t, text+"xx", 0, api.ErrText)
	one := "<fill x=\"0\" y=\"0\" w=\"1\" h=\"1\" c=\"#f00\" n=\"0\"/>\n"
	long := head + strings.Repeat(one, 1200)
	for _, x := range []string{"$", "$<fill", "<fill x=\"$", "<fill x=\"$01\" y", "<fill x=\"0\" y=\"0\" w=\"1\" h=\"1\" c=\"$#F00\"", "</clip n=\"$-\">\n", tail + "$x"} {
		s, at := placed(long + x)
		readIs(t, s, at, api.ErrVector)
	}
}

// P16.2, P16.3: too long, then a piece that is wrong, then the size, then the list, and of Screen then the cells.
func TestErrorsOfRead(t *testing.T) {
	sizes := []asked[string]{
		{"<shapes w=\"8\" h=\"3\">\n", api.OK},
		{"<shapes w=\"16384\" h=\"0\">\n", api.OK},
		{"<shapes w=\"-1\" h=\"3\">\n", api.ErrSize},
		{"<shapes w=\"8\" h=\"16385\">\n", api.ErrSize},
		{"<shapes w=\"999999999\" h=\"-999999999\">\n", api.ErrSize},
	}
	one := "<fill x=\"0\" y=\"0\" w=\"1\" h=\"1\" c=\"#f00\" n=\"0\"/>\n"
	shapes := []asked[string]{
		{"", api.OK},
		{one, api.OK},
		{strings.Replace(one, "n=\"0\"", "n=\"-1\"", 1), api.ErrArg},
		{strings.Replace(one, "n=\"0\"", "n=\"1048577\"", 1), api.ErrArg},
		{strings.Replace(one, "w=\"1\"", "w=\"-1\"", 1), api.ErrRect},
		{strings.Replace(one, "x=\"0\"", "x=\"16384\"", 1), api.ErrRect},
		{strings.Replace(one, "y=\"0\"", "y=\"-16385\"", 1), api.ErrRect},
		{strings.Replace(one, "y=\"0\" w=\"1\" h=\"1\" c=\"#f00\" n=\"0\"", "y=\"-16385\" w=\"1\" h=\"1\" c=\"#f00\" n=\"-1\"", 1), api.ErrArg},
		{"</clip n=\"0\">\n", api.ErrClip},
		{"<clip x=\"0\" y=\"0\" w=\"1\" h=\"1\" n=\"0\">\n", api.ErrClip},
		{"<clip x=\"0\" y=\"0\" w=\"1\" h=\"1\" n=\"0\">\n</clip n=\"0\">\n</clip n=\"0\">\n<clip x=\"0\" y=\"0\" w=\"1\" h=\"1\" n=\"0\">\n", api.ErrClip},
		{"</clip n=\"-1\">\n", api.ErrArg},
		{"<write x=\"0\" y=\"0\" w=\"1\" h=\"99999\" c=\"#f00\" b=\"#f00\" n=\"0\">a</write>\n", api.ErrRect},
		{"<frame x=\"0\" y=\"0\" w=\"1\" h=\"99999\" c=\"#f00\" n=\"0\"/>\n</clip n=\"0\">\n", api.ErrRect},
		{"</clip n=\"0\">\n<frame x=\"0\" y=\"0\" w=\"1\" h=\"99999\" c=\"#f00\" n=\"0\"/>\n", api.ErrClip},
	}
	for _, s := range sizes {
		for _, l := range shapes {
			readIs(t, s.value+l.value+tail, 0, firstOf(s.e, l.e))
			for _, end := range []string{"", "</shapes>", tail + "x", one + one[:9]} {
				text := s.value + l.value + end
				_, _, at, _ := modelShapes(text)
				if at < len(s.value)+len(l.value) {
					t.Errorf("%q: %d", text, at)
				}
				readIs(t, text, at, api.ErrVector)
				readIs(t, text+strings.Repeat("x", api.MaxText), 0, api.ErrText)
			}
			readIs(t, s.value+l.value+strings.Repeat(one, 2000)+tail, 0, api.ErrText)
		}
	}
}

// readIs asks Read of a text, and Screen of the same.
func readIs(t *testing.T, s string, at int, e api.Errno) {
	t.Helper()
	l, z, place, got := Read(s)
	if place != at || got != e || e != api.OK && !isNothing(l, z) {
		t.Errorf("Read(%.200q): %v, %v, %d, %d; %d, %d", s, l, z, place, got, at, e)
	}
	screen, place, got := Screen(s, red)
	if place != at || got != e || e != api.OK && (screen.Cells != nil || screen.Size != api.Size{}) {
		t.Errorf("Screen(%.200q): %v, %d, %d; %d, %d", s, screen.Size, place, got, at, e)
	}
}

// P16.3: a size that no screen may have is the cells' error, at 0, behind all of Read's.
func TestErrorsOfScreen(t *testing.T) {
	fits := []asked[api.Size]{
		{size(0, 0), api.OK}, {size(0, side), api.OK}, {size(side, 0), api.OK}, {size(512, 512), api.OK}, {size(side, 16), api.OK},
		{size(512, 513), api.ErrCell}, {size(600, 600), api.ErrCell}, {size(side, 17), api.ErrCell}, {size(side, side), api.ErrCell},
	}
	for _, s := range fits {
		if _, e := cells.Blank(s.value, red); e != s.e {
			t.Fatalf("Blank(%v): %d", s.value, e)
		}
		text := modelText([]api.Stroke{fill(rect(0, 0, 1, 1), red, 0)}, s.value)
		if _, z, at, e := Read(text); z != s.value || at != 0 || e != api.OK {
			t.Errorf("Read of %v: %v, %d, %d", s.value, z, at, e)
		}
		got, at, e := Screen(text, red)
		if at != 0 || e != s.e || e != api.OK && (got.Cells != nil || got.Size != api.Size{}) || e == api.OK && got.Size != s.value {
			t.Errorf("Screen of %v: %v, %d, %d", s.value, got.Size, at, e)
		}
		bad := modelText([]api.Stroke{open(0)}, s.value)
		if got, at, e := Screen(bad, red); got.Cells != nil || at != 0 || e != api.ErrClip {
			t.Errorf("Screen of %v and an Open: %d, %d", s.value, at, e)
		}
		if got, at, e := Screen(text+"x", red); got.Cells != nil || at != len(text) || e != api.ErrVector {
			t.Errorf("Screen of %v and something behind it: %d, %d", s.value, at, e)
		}
	}
}
