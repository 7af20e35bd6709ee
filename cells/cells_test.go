package cells

import (
	"math"
	"slices"
	"strings"
	"testing"

	"casement/api"
)

const side = api.MaxSide

var (
	none  = api.Colour{}
	white = api.Colour{R: 255, G: 255, B: 255, A: 255}
	red   = api.Colour{R: 255, A: 255}
	blue  = api.Colour{B: 255, A: 255}
	thin  = api.Colour{R: 255, A: 128}
	glass = api.Colour{R: 9, G: 8, B: 7} // its A is 0
)

func point(x, y int) api.Point { return api.Point{X: x, Y: y} }
func size(w, h int) api.Size   { return api.Size{W: w, H: h} }
func rect(x, y, w, h int) api.Rect {
	return api.Rect{At: point(x, y), Size: size(w, h)}
}

func fill(r api.Rect, c api.Colour) api.Stroke {
	return api.Stroke{Kind: api.Fill, Rect: r, Colour: c}
}

func frame(r api.Rect, c api.Colour) api.Stroke {
	return api.Stroke{Kind: api.Frame, Rect: r, Colour: c}
}

func write(r api.Rect, text string, c, back api.Colour) api.Stroke {
	return api.Stroke{Kind: api.Write, Rect: r, Text: text, Colour: c, Back: back}
}

func clip(r api.Rect) api.Stroke { return api.Stroke{Kind: api.Clip, Rect: r} }
func open() api.Stroke           { return api.Stroke{Kind: api.Open} }

func cell(r rune, c, back api.Colour) api.Cell { return api.Cell{Rune: r, Colour: c, Back: back} }
func left(r rune, c, back api.Colour) api.Cell {
	return api.Cell{Rune: r, Colour: c, Back: back, Wide: true}
}
func right(r rune, c, back api.Colour) api.Cell {
	return api.Cell{Rune: r, Colour: c, Back: back, Tail: true}
}

// plain is a rune of one cell without colours.
func plain(r rune) api.Cell { return cell(r, none, none) }

func screen(w, h int, l ...api.Cell) api.Screen { return api.Screen{Size: size(w, h), Cells: l} }

func run(x, y int, l ...api.Cell) api.Run { return api.Run{At: point(x, y), Cells: l} }

func blanks(t *testing.T, w, h int) api.Screen {
	t.Helper()
	s, e := Blank(size(w, h), none)
	if e != api.OK {
		t.Fatalf("Blank(%d, %d): %d", w, h, e)
	}
	return s
}

func drawn(t *testing.T, s api.Screen, l ...api.Stroke) api.Screen {
	t.Helper()
	d, e := Draw(s, l)
	if e != api.OK || Check(d) != api.OK {
		t.Fatalf("Draw of %d strokes on %v: %d, %d", len(l), s.Size, e, Check(d))
	}
	return d
}

func text(t *testing.T, s api.Screen) string {
	t.Helper()
	x, e := Text(s)
	if e != api.OK {
		t.Fatalf("Text of %v: %d", s.Size, e)
	}
	return x
}

func alike(a, b api.Screen) bool { return a.Size == b.Size && slices.Equal(a.Cells, b.Cells) }

func alikeRuns(a, b []api.Run) bool {
	return slices.EqualFunc(a, b, func(x, y api.Run) bool { return x.At == y.At && slices.Equal(x.Cells, y.Cells) })
}

func isZero(s api.Screen) bool { return s.Size == (api.Size{}) && s.Cells == nil }

// The chapter's examples.
func TestExamples(t *testing.T) {
	s := blanks(t, 4, 2)
	if got := text(t, s); got != "    \n    \n" {
		t.Errorf("Text(S): %q", got)
	}
	if got := text(t, drawn(t, s, frame(rect(0, 0, 4, 2), white))); got != "\u250c\u2500\u2500\u2510\n\u2514\u2500\u2500\u2518\n" {
		t.Errorf("a Frame: %q", got)
	}
	ab := drawn(t, s, write(rect(1, 0, 2, 2), "ab\nc", white, none))
	if got := text(t, ab); got != " ab \n c  \n" {
		t.Errorf("a Write: %q", got)
	}
	half := drawn(t, s, write(rect(3, 0, 1, 1), "\u4e00x", white, none))
	if got, e := At(half, point(3, 0)); got != left(0x4e00, white, none) || e != api.OK {
		t.Errorf("half a rune: %v, %d", got, e)
	}
	faint := drawn(t, s, fill(rect(0, 0, 1, 1), thin))
	if got, e := At(faint, point(0, 0)); got != cell(' ', thin, thin) || e != api.OK {
		t.Errorf("a thin Fill: %v, %d", got, e)
	}
	l, e := Runs(s, ab)
	want := []api.Run{run(1, 0, cell('a', white, none), cell('b', white, none)), run(1, 1, cell('c', white, none))}
	if !alikeRuns(l, want) || e != api.OK {
		t.Errorf("Runs: %v, %d", l, e)
	}
	if got, e := Escapes(l); got != "\x1b[1;2H\x1b[38;2;255;255;255;255mab\x1b[2;2Hc" || e != api.OK {
		t.Errorf("Escapes: %q, %d", got, e)
	}
	for text, want := range map[string]int{"\x1b[1;4Hab": 7, "\x1b[01;1H": 0, "\x1b[3;1Hx": 6} {
		if got, at, e := Read(s, text); !isZero(got) || at != want || e != api.ErrCell {
			t.Errorf("Read(%q): %v, %d, %d", text, got, at, e)
		}
	}
	_, e1 := Blank(size(600, 600), none)
	_, e2 := Blank(size(-1, 0), none)
	_, e3 := At(s, point(4, 0))
	e4 := Check(screen(4, 2, s.Cells[:7]...))
	if !slices.Equal([]api.Errno{e1, e2, e3, e4}, slices.Repeat([]api.Errno{api.ErrCell}, 4)) {
		t.Errorf("%d, %d, %d, %d", e1, e2, e3, e4)
	}
}

// sizes are such as screens may have, and such as none may.
func sizes() []asked[api.Size] {
	ok, no := api.OK, api.ErrCell
	return []asked[api.Size]{
		{size(0, 0), ok}, {size(1, 1), ok}, {size(4, 2), ok}, {size(512, 512), ok}, {size(side, 16), ok}, {size(16, side), ok},
		{size(side, 0), ok}, {size(0, side), ok}, {size(side, 1), ok}, {size(0, 1), ok}, {size(1, 0), ok},
		{size(513, 512), no}, {size(512, 513), no}, {size(side, 17), no}, {size(17, side), no}, {size(side, side), no},
		{size(-1, 0), no}, {size(0, -1), no}, {size(-1, -1), no}, {size(-4, -2), no}, {size(4, -2), no},
		{size(side+1, 0), no}, {size(0, side+1), no}, {size(side+1, 1), no}, {size(1, side+1), no},
		{size(math.MaxInt, 0), no}, {size(0, math.MinInt), no}, {size(math.MinInt, 2), no}, {size(1<<32, 1<<32), no}, {size(math.MaxInt, math.MaxInt), no},
	}
}

// P15.1
func TestBlank(t *testing.T) {
	for _, x := range sizes() {
		for _, back := range []api.Colour{none, red, thin, glass} {
			s, e := Blank(x.value, back)
			if e != x.e || e != api.OK && !isZero(s) {
				t.Fatalf("Blank(%v): %d", x.value, e)
			}
			if e != api.OK {
				continue
			}
			other := func(c api.Cell) bool { return c != cell(' ', none, back) }
			if s.Size != x.value || len(s.Cells) != x.value.W*x.value.H || slices.ContainsFunc(s.Cells, other) || Check(s) != api.OK {
				t.Errorf("Blank(%v, %v): %d cells, %d", x.value, back, len(s.Cells), Check(s))
			}
		}
	}
}

// oneCell are cells, and whether a screen or a run may have them.
func oneCell() []asked[api.Cell] {
	ok, no := api.OK, api.ErrCell
	l := []asked[api.Cell]{
		{plain('a'), ok}, {plain(' '), ok}, {plain('~'), ok}, {plain(0xa0), ok}, {plain(0xfffd), ok}, {plain(0x10ffff), ok}, {plain(0xd7ff), ok}, {plain(0xe000), ok}, {plain(0x2500), ok},
		{cell('a', glass, thin), ok},
		{left(0x4e00, red, blue), ok}, {right(0x4e00, none, thin), ok}, {left(0x1100, none, none), ok}, {right(0x3fffd, none, none), ok},
		{plain(0x4e00), no}, {api.Cell{Rune: 0x4e00, Wide: true, Tail: true}, no},
		{left('a', none, none), no}, {right('a', none, none), no}, {api.Cell{Rune: 'a', Wide: true, Tail: true}, no},
	}
	for _, r := range []rune{0, 9, 10, 14, 15, 27, 0x1f, 0x7f, 0x9f, 0x300, 0x301, 0x200b, 0xfe0f, 0xe0100, -1, math.MinInt32, 0xd800, 0xdabc, 0xdfff, 0x110000, math.MaxInt32} {
		l = append(l, asked[api.Cell]{plain(r), no}, asked[api.Cell]{left(r, none, none), no}, asked[api.Cell]{right(r, none, none), no}, asked[api.Cell]{api.Cell{Rune: r, Wide: true, Tail: true}, no})
	}
	return l
}

// P15.1: which cells may be, at each place of a screen.
func TestCheckCells(t *testing.T) {
	for _, x := range oneCell() {
		if e := Check(screen(1, 1, x.value)); e != x.e {
			t.Errorf("Check of %v: %d", x.value, e)
		}
		for at := range 6 {
			s := blanks(t, 3, 2)
			s.Cells[at] = x.value
			if e := Check(s); e != x.e {
				t.Errorf("Check of %v at %d: %d", x.value, at, e)
			}
		}
	}
}

// P15.1: a screen has just as many cells as its size says, and a size that may be.
func TestCheckSizes(t *testing.T) {
	for _, x := range sizes() {
		count := x.value.W * x.value.H
		if x.e != api.OK {
			count = 8 // no number of cells makes a screen of it, be it that of the sides as they are
		}
		l := slices.Repeat([]api.Cell{plain('a')}, count+1)
		for _, n := range []int{0, count - 1, count, count + 1} {
			if n < 0 {
				continue
			}
			want := api.ErrCell
			if x.e == api.OK && n == count {
				want = api.OK
			}
			if e := Check(api.Screen{Size: x.value, Cells: l[:n:n]}); e != want {
				t.Errorf("Check of %v with %d cells: %d", x.value, n, e)
			}
		}
	}
	if e := Check(api.Screen{}); e != api.OK {
		t.Errorf("Check of no cells: %d", e)
	}
	if e := Check(screen(0, 5)); e != api.OK {
		t.Errorf("Check of no cells: %d", e)
	}
}

// P15.1: At of all places is the screen's cells; one beyond each edge there is none.
func TestAt(t *testing.T) {
	s := screen(3, 2, plain('a'), left(0x4e00, red, none), right(0x4e00, red, none), plain('d'), plain('e'), cell('f', blue, thin))
	for y := -2; y < 5; y++ {
		for x := -2; x < 6; x++ {
			want, wrong := api.Cell{}, api.ErrCell
			if x >= 0 && x < 3 && y >= 0 && y < 2 {
				want, wrong = s.Cells[3*y+x], api.OK
			}
			if c, e := At(s, point(x, y)); c != want || e != wrong {
				t.Errorf("At(%d, %d): %v, %d", x, y, c, e)
			}
		}
	}
	for _, p := range []api.Point{point(math.MaxInt, 0), point(0, math.MaxInt), point(math.MinInt, 0), point(0, math.MinInt), point(math.MaxInt, math.MaxInt), point(-3, 1), point(-1, 1)} {
		if c, e := At(s, p); c != (api.Cell{}) || e != api.ErrCell {
			t.Errorf("At(%v): %v, %d", p, c, e)
		}
	}
	for _, s := range []api.Screen{screen(0, 0), screen(0, 5), screen(5, 0)} {
		if _, e := At(s, point(0, 0)); e != api.ErrCell {
			t.Errorf("At of no cells: %d", e)
		}
	}
}

// P15.3, P15.9
func TestText(t *testing.T) {
	const wide, other = 0x4e00, 0x4e8c
	l, r := left(wide, none, none), right(wide, none, none)
	for i, x := range []struct {
		s    api.Screen
		want string
	}{
		{screen(0, 0), ""},
		{screen(0, 3), "\n\n\n"},
		{screen(3, 0), ""},
		{screen(1, 1, plain('a')), "a\n"},
		{screen(2, 1, l, r), "\u4e00\n"},
		{screen(2, 1, left(wide, red, blue), right(wide, thin, none)), "\u4e00\n"}, // colours tell no runes apart
		{screen(2, 1, r, l), "  \n"},
		{screen(2, 1, l, l), "  \n"},
		{screen(2, 1, r, r), "  \n"},
		{screen(3, 1, l, l, r), " \u4e00\n"},
		{screen(3, 1, l, r, r), "\u4e00 \n"},
		{screen(4, 1, l, r, l, r), "\u4e00\u4e00\n"},
		{screen(4, 1, l, l, r, r), " \u4e00 \n"},
		{screen(2, 1, l, right(other, none, none)), "  \n"},
		{screen(4, 1, l, left(other, none, none), r, right(other, none, none)), "    \n"},
		{screen(3, 1, l, plain('x'), r), " x \n"},
		{screen(1, 2, l, r), " \n \n"}, // the right half lies in the next row
		{screen(2, 2, plain('a'), l, r, plain('b')), "a \n b\n"},
		{screen(1, 1, l), " \n"},
		{screen(1, 1, r), " \n"},
		{screen(3, 2, plain('a'), plain(0xe9), plain(0x20ac), plain(0x10400), plain(0xfffd), plain(' ')), "a\u00e9\u20ac\n\U00010400\ufffd \n"},
		{screen(2, 1, left(0x1f300, none, none), right(0x1f300, none, none)), "\U0001f300\n"},
	} {
		got := text(t, x.s)
		if got != x.want || strings.Count(got, "\n") != x.s.Size.H {
			t.Errorf("Text %d: %q, not %q", i, got, x.want)
		}
	}
}
