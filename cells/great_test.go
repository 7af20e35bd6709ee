package cells

import (
	"slices"
	"strings"
	"testing"

	"casement/api"
)

// P15.1, P15.2, P15.3: MaxCells cells, in each shape.
func TestMostCells(t *testing.T) {
	for _, x := range []api.Size{size(512, 512), size(side, 16), size(16, side)} {
		s := blanks(t, x.W, x.H)
		all := rect(0, 0, x.W, x.H)
		got := drawn(t, s, fill(all, blue), frame(all, white), write(rect(1, x.H-2, x.W-1, 2), "ab", red, none), fill(rect(x.W-1, x.H-1, 1, 1), red))
		lines := strings.Split(text(t, got), "\n")
		if len(lines) != x.H+1 || lines[0] != "\u250c"+strings.Repeat("\u2500", x.W-2)+"\u2510" || !strings.HasPrefix(lines[x.H-2], "\u2502ab ") || lines[x.H-1] != "\u2514"+strings.Repeat("\u2500", x.W-2)+" " {
			t.Errorf("%v: %d lines", x, len(lines))
		}
		if c, e := At(got, point(x.W-1, x.H-1)); c != cell(' ', none, red) || e != api.OK {
			t.Errorf("At the last place of %v: %v, %d", x, c, e)
		}
		if c, e := At(got, point(2, x.H-2)); c != cell('b', red, blue) || e != api.OK {
			t.Errorf("At of %v: %v, %d", x, c, e)
		}
	}
}

// P15.3: the greatest text of all: no limit is told for it.
func TestGreatestText(t *testing.T) {
	s := api.Screen{Size: size(16, side), Cells: slices.Repeat([]api.Cell{plain(0x10400)}, api.MaxCells)}
	if x, e := Text(s); x != strings.Repeat(strings.Repeat("\U00010400", 16)+"\n", side) || e != api.OK {
		t.Errorf("%d bytes, %d", len(x), e)
	}
}

// P15.2: MaxStrokes strokes, of which the last ones hold.
func TestMostStrokes(t *testing.T) {
	s := blanks(t, 64, 64)
	var l []api.Stroke
	for i := range api.MaxStrokes {
		c := api.Colour{R: uint8(i), G: uint8(i >> 8), A: 255}
		l = append(l, fill(rect(i%64, i/64%64, 1, 1), c))
	}
	got := drawn(t, s, l...)
	for i, c := range got.Cells {
		if want := l[api.MaxStrokes-64*64+i].Colour; c != cell(' ', none, want) {
			t.Fatalf("%d: %v, not %v", i, c, want)
		}
	}
	if _, e := Draw(s, append(l, l[0])); e != api.ErrMany {
		t.Errorf("one more: %d", e)
	}
}

// P15.2: clips in one another as deep as a list allows.
func TestDeepestClips(t *testing.T) {
	n := api.MaxStrokes/2 - 1
	l := slices.Repeat([]api.Stroke{clip(rect(0, 0, 5, 5))}, n)
	l = append(l, fill(rect(1, 1, 9, 9), red))
	l = append(l, slices.Repeat([]api.Stroke{open()}, n)...)
	l = append(l, write(rect(0, 0, 1, 1), "x", white, none))
	got := drawn(t, blanks(t, 9, 9), l...)
	for i, c := range got.Cells {
		want := plain(' ')
		switch x, y := i%9, i/9; {
		case i == 0:
			want = cell('x', white, none)
		case x >= 1 && x < 5 && y >= 1 && y < 5:
			want = cell(' ', none, red)
		}
		if c != want {
			t.Errorf("%d: %v", i, c)
		}
	}
}

// P15.2: texts of MaxText bytes: one line, all lines, nothing but marks.
func TestLongestTexts(t *testing.T) {
	s := blanks(t, 2, 2)
	far := -side + 2
	for i, x := range []struct {
		r    api.Rect
		text string
		want string
	}{
		{rect(far, 0, side, 1), strings.Repeat("a", side-2) + strings.Repeat("b", api.MaxText-side+2), "bb\n  \n"},
		{rect(far, 0, side, 1), strings.Repeat("\u4e00", api.MaxText/3), "\u4e00\n  \n"},
		{rect(far+1, 0, side, 1), strings.Repeat("\u4e00", api.MaxText/3), "  \n  \n"},
		{rect(0, far, 2, side), strings.Repeat("a\n", side-2) + "b\nc\n" + strings.Repeat("d", api.MaxText-2*side), "b \nc \n"},
		{rect(0, far, 2, side), strings.Repeat("\n", api.MaxText), "  \n  \n"},
		{rect(0, 0, 2, 2), strings.Repeat("\u0301", api.MaxText/2-2) + "ab\nc", "ab\nc \n"},
		{rect(-side, -side, 2*side, 2*side), strings.Repeat("\n", side) + strings.Repeat(" ", side) + "ab\n" + strings.Repeat("x", side) + "cd", "ab\ncd\n"},
	} {
		if got := text(t, drawn(t, s, write(x.r, x.text, white, none))); got != x.want {
			t.Errorf("%d: %q", i, got)
		}
	}
}

// chequered are two screens of MaxCells cells, unlike in each second cell, and so in as many runs as there can be.
func chequered(t *testing.T) (a, b api.Screen) {
	a = blanks(t, 512, 512)
	b = blanks(t, 512, 512)
	for i := range b.Cells {
		if i%2 == 0 {
			b.Cells[i] = plain('x')
		}
	}
	return a, b
}

// P15.4, P15.9: as many runs as there can be.
func TestMostRuns(t *testing.T) {
	a, b := chequered(t)
	l, e := Runs(a, b)
	if len(l) != api.MaxCells/2 || e != api.OK {
		t.Fatalf("%d runs, %d", len(l), e)
	}
	if got, e := Put(a, l); !alike(got, b) || e != api.OK {
		t.Errorf("Put: %d", e)
	}
	if _, e := Escapes(l); e != api.ErrMany {
		t.Errorf("Escapes: %d", e)
	}
	full := blanks(t, 512, 512)
	for i := range full.Cells {
		full.Cells[i] = plain('y')
	}
	l, e = Runs(a, full)
	if len(l) != 512 || e != api.OK {
		t.Fatalf("%d runs, %d", len(l), e)
	}
	x, e := Escapes(l)
	if e != api.OK {
		t.Fatal(e)
	}
	if got, at, e := Read(a, x); !alike(got, full) || at != 0 || e != api.OK {
		t.Errorf("Read: %d, %d", at, e)
	}
}

// P15.4: MaxCells runs, and one more.
func TestMostRunsPut(t *testing.T) {
	s := of("ab")
	l := slices.Repeat([]api.Run{word(0, 0, "x")}, api.MaxCells)
	l[api.MaxCells-1] = word(1, 0, "y")
	if got, e := Put(s, l); !alike(got, of("xy")) || e != api.OK {
		t.Errorf("%v, %d", got, e)
	}
	if _, e := Put(s, append(l, word(0, 0, "z"))); e != api.ErrMany {
		t.Errorf("one more: %d", e)
	}
}

// P15.5, P15.6: a text of MaxAnswer bytes, and of one more.
func TestLongestEscapes(t *testing.T) {
	goes := "\x1b[1;1H"
	n := api.MaxAnswer - len(goes)
	cells := slices.Repeat([]api.Cell{plain('a')}, n+1)
	if x, e := Escapes([]api.Run{run(0, 0, cells[:n]...)}); x != goes+strings.Repeat("a", n) || e != api.OK {
		t.Errorf("%d bytes, %d", len(x), e)
	}
	if x, e := Escapes([]api.Run{run(0, 0, cells...)}); x != "" || e != api.ErrMany {
		t.Errorf("one more: %d bytes, %d", len(x), e)
	}
	// As long by many runs, the last of which is one rune, of one byte or of two.
	l := slices.Repeat([]api.Run{word(0, 0, strings.Repeat("a", 26))}, api.MaxAnswer/32-1)
	l = append(l, word(0, 0, strings.Repeat("a", 25)+"b"))
	if x, e := Escapes(l); len(x) != api.MaxAnswer || e != api.OK {
		t.Errorf("%d bytes, %d", len(x), e)
	}
	l[0].Cells[25] = plain(0xe9)
	if x, e := Escapes(l); x != "" || e != api.ErrMany {
		t.Errorf("one more: %d bytes, %d", len(x), e)
	}
}

// P15.6
func TestLongestRead(t *testing.T) {
	s := of("....")
	const back = "\x1b[1;1Hab"
	x := strings.Repeat(back, api.MaxAnswer/len(back)-1)
	x += "\x1b[1;3Hcd"
	if len(x) != api.MaxAnswer {
		t.Fatal(len(x))
	}
	if got, at, e := Read(s, x); !alike(got, of("abcd")) || at != 0 || e != api.OK {
		t.Errorf("%v, %d, %d", got, at, e)
	}
	if got, at, e := Read(s, x[:len(x)-1]+"\xff"); !isZero(got) || at != api.MaxAnswer-1 || e != api.ErrCell {
		t.Errorf("wrong at the end: %v, %d, %d", got, at, e)
	}
	if got, at, e := Read(s, x+"e"); !isZero(got) || at != 0 || e != api.ErrText {
		t.Errorf("one more: %v, %d, %d", got, at, e)
	}
	for _, long := range []string{"\x1b[" + strings.Repeat("0", api.MaxAnswer-2), "\x1b[" + strings.Repeat("9", api.MaxAnswer-2), "\x1b[" + strings.Repeat("1;", api.MaxAnswer/2-1), strings.Repeat("\x0e", api.MaxAnswer)} {
		if _, at, e := Read(s, long); at != 0 || e != api.ErrCell {
			t.Errorf("%q..: %d, %d", long[:5], at, e)
		}
	}
}
