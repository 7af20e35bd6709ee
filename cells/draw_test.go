package cells

import (
	"slices"
	"strings"
	"testing"

	"casement/api"
	"casement/colour"
)

// shows draws on blanks of 5 by 3 and holds the runes against lines.
func shows(t *testing.T, lines string, l ...api.Stroke) {
	t.Helper()
	if got := text(t, drawn(t, blanks(t, 5, 3), l...)); got != lines+"\n" {
		t.Errorf("%v:\n%s, not\n%s", l, got, lines)
	}
}

// P15.2: Fills whose A is 0, 255 and between, on a cell of each kind.
func TestFill(t *testing.T) {
	for _, old := range []api.Cell{plain(' '), cell('a', white, blue), left(0x4e00, thin, glass), right(0x4e00, blue, thin)} {
		for _, x := range []struct {
			c    api.Colour
			want api.Cell
		}{
			{glass, old},
			{none, old},
			{red, cell(' ', none, red)},
			{api.Colour{R: 1, G: 2, B: 3, A: 255}, cell(' ', none, api.Colour{R: 1, G: 2, B: 3, A: 255})},
			{thin, api.Cell{Rune: old.Rune, Colour: colour.Over(thin, old.Colour), Back: colour.Over(thin, old.Back), Wide: old.Wide, Tail: old.Tail}},
			{api.Colour{G: 7, A: 1}, api.Cell{Rune: old.Rune, Colour: colour.Over(api.Colour{G: 7, A: 1}, old.Colour), Back: colour.Over(api.Colour{G: 7, A: 1}, old.Back), Wide: old.Wide, Tail: old.Tail}},
			{api.Colour{G: 7, A: 254}, api.Cell{Rune: old.Rune, Colour: colour.Over(api.Colour{G: 7, A: 254}, old.Colour), Back: colour.Over(api.Colour{G: 7, A: 254}, old.Back), Wide: old.Wide, Tail: old.Tail}},
		} {
			s := screen(2, 2, plain('x'), old, plain('y'), plain('z'))
			want := screen(2, 2, plain('x'), x.want, plain('y'), plain('z'))
			if got := drawn(t, s, fill(rect(1, 0, 1, 1), x.c)); !alike(got, want) {
				t.Errorf("a Fill in %v on %v: %v", x.c, old, got)
			}
		}
	}
}

// P15.2: one number worked out by hand: half red upon white and blue.
func TestFillNumbers(t *testing.T) {
	got := drawn(t, screen(1, 1, cell('a', white, blue)), fill(rect(0, 0, 1, 1), thin))
	if want := cell('a', api.Colour{R: 255, G: 127, B: 127, A: 255}, api.Colour{R: 128, B: 127, A: 255}); got.Cells[0] != want {
		t.Errorf("%v, not %v", got.Cells[0], want)
	}
}

// P15.2: Frames of each shape.
func TestFrame(t *testing.T) {
	shows(t, "\u25a1    \n     \n     ", frame(rect(0, 0, 1, 1), white))
	shows(t, "\u2502    \n\u2502    \n     ", frame(rect(0, 0, 1, 2), white))
	shows(t, "\u2502    \n\u2502    \n\u2502    ", frame(rect(0, 0, 1, 3), white))
	shows(t, "\u2500\u2500   \n     \n     ", frame(rect(0, 0, 2, 1), white))
	shows(t, "\u2500\u2500\u2500  \n     \n     ", frame(rect(0, 0, 3, 1), white))
	shows(t, "\u250c\u2510   \n\u2514\u2518   \n     ", frame(rect(0, 0, 2, 2), white))
	shows(t, " \u250c\u2500\u2510 \n \u2514\u2500\u2518 \n     ", frame(rect(1, 0, 3, 2), white))
	shows(t, "\u250c\u2510   \n\u2502\u2502   \n\u2514\u2518   ", frame(rect(0, 0, 2, 3), white))
	shows(t, "\u250c\u2500\u2500\u2500\u2510\n\u2502   \u2502\n\u2514\u2500\u2500\u2500\u2518", frame(rect(0, 0, 5, 3), white))
	shows(t, "     \n     \n     ", frame(rect(0, 0, 0, 3), white), frame(rect(0, 0, 3, 0), white), frame(rect(0, 0, 5, 3), glass), frame(rect(0, 0, 1, 1), none))
}

// P15.2: Frames of which borders lie outside of the screen, or of a clip.
func TestFramePieces(t *testing.T) {
	shows(t, " \u2502   \n\u2500\u2518   \n     ", frame(rect(-1, -1, 3, 3), white))
	shows(t, "     \n   \u250c\u2500\n   \u2502 ", frame(rect(3, 1, 9, 9), white))
	shows(t, "\u2500\u2510   \n \u2502   \n \u2502   ", frame(rect(-side, 0, side+2, side), white))
	shows(t, "     \n     \n     ", frame(rect(-1, -1, 7, 5), white), frame(rect(5, 0, 2, 2), white), frame(rect(0, 3, 5, 1), white), frame(rect(-2, 0, 2, 2), white), frame(rect(-side, -side, 2*side, 2*side), white))
	shows(t, "\u2500\u2500\u2500\u2500\u2500\n     \n\u2500\u2500\u2500\u2500\u2500", frame(rect(-1, 0, 7, 3), white))
	shows(t, "     \n \u2502   \n \u2514\u2500  ", clip(rect(1, 1, 2, 9)), frame(rect(1, 0, 4, 3), white), open())
	shows(t, "     \n     \n     ", clip(rect(1, 1, 3, 1)), frame(rect(0, 0, 5, 3), white), open())
	shows(t, "\u2500    \n     \n     ", frame(rect(-side, 0, side+1, 1), white))
}

// P15.2: a Frame's rune is laid upon the back that was there; what was of the cell beside is gone.
func TestFrameCells(t *testing.T) {
	for _, old := range []api.Cell{plain(' '), cell('a', white, blue), left(0x4e00, red, thin), right(0x4e00, red, glass)} {
		for _, c := range []api.Colour{white, thin, {G: 3, A: 1}} {
			got := drawn(t, screen(1, 1, old), frame(rect(0, 0, 1, 1), c))
			if want := cell(0x25a1, colour.Over(c, old.Back), old.Back); got.Cells[0] != want {
				t.Errorf("a Frame in %v on %v: %v", c, old, got.Cells[0])
			}
		}
		for _, c := range []api.Colour{none, glass} {
			if got := drawn(t, screen(1, 1, old), frame(rect(0, 0, 1, 1), c)); got.Cells[0] != old {
				t.Errorf("a Frame in %v on %v: %v", c, old, got.Cells[0])
			}
		}
	}
}

// P15.2: where pieces of texts lie.
func TestWrite(t *testing.T) {
	put := func(lines string, r api.Rect, what string) {
		t.Helper()
		shows(t, lines, write(r, what, white, none))
	}
	put(" ab  \n c   \n     ", rect(1, 0, 2, 2), "ab\nc")
	put("     \n     \n     ", rect(0, 0, 5, 3), "")
	put("     \n     \n     ", rect(0, 0, 5, 3), "\n\n\n\n")
	put("     \na    \n     ", rect(0, 0, 5, 3), "\na")
	put("a    \n     \nb    ", rect(0, 0, 5, 3), "a\n\nb")
	put("a    \nb    \nc    ", rect(0, 0, 5, 3), "a\nb\nc\nd\ne")
	put("a    \nb    \n     ", rect(0, 0, 5, 2), "a\nb\nc\nd")
	put("abc  \nd    \n     ", rect(0, 0, 3, 3), "abcdef\nd")
	put("abcde\nx    \n     ", rect(0, 0, 9, 3), "abcdefg\nx")
	put("cd   \ny    \n     ", rect(-2, 0, 4, 3), "abcdefg\nxxy")
	put("c    \nd    \n     ", rect(0, -2, 4, 4), "a\nb\nc\nd\ne")
	put("     \n     \n    a", rect(4, 2, 9, 9), "abc\ndef")
	put("     \n     \n     ", rect(5, 0, 9, 9), "abc")
	put("     \n     \n     ", rect(0, 3, 9, 9), "abc")
	put("     \n     \n     ", rect(-9, -9, 9, 9), "abc")
	put("     \n     \n     ", rect(0, 0, 0, 3), "abc")
	put("     \n     \n     ", rect(0, 0, 5, 0), "abc")
	put("abc  \n     \n     ", rect(0, 0, 5, 3), "a\tb\x00\x7f\x1bc\r")
	put("e\ufffdx  \na    \n     ", rect(0, 0, 5, 3), "e\u0301\u0302\xffx\n\u0301a\u200b")
	put("\ufffd\ufffd\ufffd  \n     \n     ", rect(0, 0, 5, 3), "\xed\xa0\x80")
	put("\ufffd\ufffdab \n     \n     ", rect(0, 0, 5, 3), "\xe4\xb8ab")
	put("\u4e00x  \n\u4e00\u4e00 \nx\u4e00  ", rect(0, 0, 5, 3), "\u4e00x\n\u4e00\u4e00\u4e00\nx\u4e00")
	put("\u4e00x  \n     \n     ", rect(0, 0, 5, 3), "\u4e00\u0301x")
	put(" x\u4e00 \n     \n     ", rect(-1, 0, 9, 3), "\u4e00x\u4e00")
}

// P15.2: one half of a wide piece alone shows: at the Rect's end, the screen's edges, at a clip's edges, beside what is drawn later.
func TestWriteHalves(t *testing.T) {
	l, r := left(0x4e00, white, none), right(0x4e00, white, none)
	b := plain(' ')
	wide := func(at api.Rect) api.Stroke { return write(at, "\u4e00\u4e00", white, none) }
	for i, x := range []struct {
		want []api.Cell
		l    []api.Stroke
	}{
		{[]api.Cell{l, r, l, r}, []api.Stroke{wide(rect(0, 0, 4, 1))}},
		{[]api.Cell{l, b, b, b}, []api.Stroke{wide(rect(0, 0, 1, 1))}},
		{[]api.Cell{l, r, l, b}, []api.Stroke{wide(rect(0, 0, 3, 1))}},
		{[]api.Cell{b, l, r, l}, []api.Stroke{wide(rect(1, 0, 9, 1))}},
		{[]api.Cell{r, l, r, b}, []api.Stroke{wide(rect(-1, 0, 9, 1))}},
		{[]api.Cell{r, b, b, b}, []api.Stroke{wide(rect(-3, 0, 9, 1))}},
		{[]api.Cell{b, r, l, b}, []api.Stroke{clip(rect(1, 0, 2, 1)), wide(rect(0, 0, 4, 1)), open()}},
		{[]api.Cell{b, r, b, b}, []api.Stroke{clip(rect(1, 0, 1, 1)), wide(rect(0, 0, 4, 1)), open()}},
		{[]api.Cell{l, r, plain('x'), r}, []api.Stroke{wide(rect(0, 0, 4, 1)), write(rect(2, 0, 1, 1), "x", none, none)}},
		{[]api.Cell{l, cell(' ', none, red), l, r}, []api.Stroke{wide(rect(0, 0, 4, 1)), fill(rect(1, 0, 1, 1), red)}},
		{[]api.Cell{l, l, r, r}, []api.Stroke{wide(rect(0, 0, 4, 1)), write(rect(1, 0, 2, 1), "\u4e00", white, none)}},
		{[]api.Cell{cell(0x25a1, white, none), r, l, r}, []api.Stroke{wide(rect(0, 0, 4, 1)), frame(rect(0, 0, 1, 1), white)}},
	} {
		if got := drawn(t, blanks(t, 4, 1), x.l...); !slices.Equal(got.Cells, x.want) {
			t.Errorf("%d: %v, not %v", i, got.Cells, x.want)
		}
	}
}

// P15.2: a Write's Back is laid over what is behind, its Colour over that; either may be clear.
func TestWriteColours(t *testing.T) {
	colours := []api.Colour{none, glass, red, thin, blue, {G: 9, A: 1}, {G: 9, A: 254}}
	for _, old := range []api.Cell{plain(' '), cell('a', white, blue), left(0x4e00, thin, glass), right(0x4e00, blue, thin)} {
		for _, c := range colours {
			for _, back := range colours {
				got := drawn(t, screen(2, 1, old, old), write(rect(0, 0, 1, 1), "xy", c, back))
				behind := colour.Over(back, old.Back)
				if want := []api.Cell{cell('x', colour.Over(c, behind), behind), old}; !slices.Equal(got.Cells, want) {
					t.Errorf("a Write in %v upon %v on %v: %v, not %v", c, back, old, got.Cells, want)
				}
			}
		}
	}
	got := drawn(t, screen(1, 1, cell('a', white, blue)), write(rect(0, 0, 1, 1), "x", glass, none))
	if want := cell('x', blue, blue); got.Cells[0] != want {
		t.Errorf("a clear Write: %v", got.Cells[0])
	}
}

// P15.2: at places at which no piece lies a Write leaves all as it was, its Back too.
func TestWriteElsewhere(t *testing.T) {
	s := screen(3, 2, slices.Repeat([]api.Cell{cell('o', red, blue)}, 6)...)
	got := drawn(t, s, write(rect(0, 0, 3, 2), "a\u0301\t\n\u0301", white, red))
	want := screen(3, 2, slices.Repeat([]api.Cell{cell('o', red, blue)}, 6)...)
	want.Cells[0] = cell('a', white, red)
	if !alike(got, want) {
		t.Errorf("%v", got)
	}
}

// P15.2: clips within clips, and what is drawn behind them.
func TestClips(t *testing.T) {
	all := write(rect(0, 0, 5, 3), "abcde\nfghij\nklmno", white, none)
	shows(t, " bc  \n gh  \n     ", clip(rect(1, 0, 2, 2)), all, open())
	shows(t, "     \n  h  \n     ", clip(rect(1, 0, 2, 2)), clip(rect(2, 1, 5, 5)), all, open(), open())
	shows(t, " bc  \n gh  \n     ", clip(rect(1, 0, 2, 2)), clip(rect(2, 1, 5, 5)), open(), all, open())
	shows(t, "     \n     \n     ", clip(rect(1, 0, 2, 2)), clip(rect(3, 0, 2, 2)), all, open(), open())
	shows(t, "abcde\nfghij\nklmno", clip(rect(1, 0, 2, 2)), open(), all)
	shows(t, "     \n     \n     ", clip(rect(1, 1, 0, 5)), all, open())
	shows(t, "abcde\nfghij\nklmno", clip(rect(-side, -side, 2*side, 2*side)), all, open())
	shows(t, "     \n     \n     ", clip(rect(5, 3, 9, 9)), all, open(), clip(rect(-9, -9, 9, 9)), all, open())
}

// P15.2: strokes are drawn one by one, in order.
func TestOrder(t *testing.T) {
	r := rect(0, 0, 1, 1)
	shows(t, "b    \n     \n     ", write(r, "a", white, none), write(r, "b", white, none))
	shows(t, "     \n     \n     ", write(r, "a", white, none), fill(r, red))
	shows(t, "a    \n     \n     ", fill(r, red), write(r, "a", white, none))
	shows(t, "\u25a1    \n     \n     ", write(r, "a", white, none), frame(r, red))
}

// P15.2: rectangles that lie wholly outside, and screens of no cells.
func TestDrawNothing(t *testing.T) {
	every := []api.Stroke{
		fill(rect(-side, -side, 2*side, 2*side), red), frame(rect(0, 0, 9, 9), red), write(rect(0, 0, 9, 9), "abc\nd", red, blue),
		clip(rect(0, 0, 1, 1)), fill(rect(0, 0, 1, 1), thin), open(),
	}
	for _, s := range []api.Screen{screen(0, 0), screen(0, 3), screen(3, 0), screen(0, side), screen(side, 0)} {
		if got := drawn(t, s, every...); !alike(got, s) {
			t.Errorf("on %v: %v", s, got)
		}
	}
	s := screen(2, 1, plain('a'), plain('b'))
	for _, r := range []api.Rect{rect(2, 0, 5, 5), rect(0, 1, 5, 5), rect(-5, 0, 5, 5), rect(0, -5, 5, 5), rect(0, 0, 0, 1), rect(1, 0, 1, 0), rect(side, side, 0, 0), rect(-side, -side, 1, 1), rect(side-1, side-1, 1, 1)} {
		if got := drawn(t, s, fill(r, red), frame(r, red), write(r, strings.Repeat("xxxxx\n", 9), red, red)); !alike(got, s) {
			t.Errorf("in %v: %v", r, got)
		}
	}
	if got := drawn(t, s); !alike(got, s) {
		t.Errorf("none: %v", got)
	}
}
