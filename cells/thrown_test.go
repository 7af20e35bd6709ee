package cells

import (
	"math/rand"
	"slices"
	"strings"
	"testing"

	"casement/api"
	"casement/list"
)

func pick[T any](r *rand.Rand, l ...T) T { return l[r.Intn(len(l))] }

func thrownColour(r *rand.Rand) api.Colour {
	return pick(r, none, none, red, blue, white, thin, glass, api.Colour{G: 200, B: 3, A: 1}, api.Colour{G: 77, B: 9, A: 254})
}

func thrownCell(r *rand.Rand) api.Cell {
	c, back := thrownColour(r), thrownColour(r)
	switch r.Intn(4) {
	case 0:
		return left(pick[rune](r, 0x4e00, 0x1f300), c, back)
	case 1:
		return right(pick[rune](r, 0x4e00, 0x1f300), c, back)
	}
	return cell(pick[rune](r, ' ', 'a', 'b', 0xfffd, 0x2500, 0x10400), c, back)
}

func thrownSize(r *rand.Rand) api.Size {
	if r.Intn(20) == 0 {
		return size(pick(r, 0, 3), pick(r, 0, 3))
	}
	return size(1+r.Intn(9), 1+r.Intn(5))
}

// thrownScreen has likes beside one another, and whole runes of two cells.
func thrownScreen(r *rand.Rand, s api.Size) api.Screen {
	l := make([]api.Cell, s.W*s.H)
	for i := range l {
		switch {
		case i > 0 && r.Intn(3) == 0:
			l[i] = l[i-1]
		case i > 0 && l[i-1].Wide && r.Intn(2) == 0:
			l[i] = l[i-1]
			l[i].Wide, l[i].Tail = false, true
		default:
			l[i] = thrownCell(r)
		}
	}
	return api.Screen{Size: s, Cells: l}
}

// thrownNext is a screen with some cells changed.
func thrownNext(r *rand.Rand, s api.Screen) api.Screen {
	other := thrownScreen(r, s.Size)
	for i := range other.Cells {
		if r.Intn(3) > 0 {
			other.Cells[i] = s.Cells[i]
		}
	}
	return other
}

func thrownRect(r *rand.Rand) api.Rect {
	if r.Intn(15) == 0 {
		return pick(r, rect(-side, -side, 2*side, 2*side), rect(-side, 1, side+3, 1), rect(2, -side, 1, side+2), rect(0, 0, side, side), rect(1, 1, 0, 3))
	}
	return rect(r.Intn(9)-3, r.Intn(6)-2, r.Intn(10), r.Intn(7))
}

func thrownText(r *rand.Rand) string {
	text := ""
	for range r.Intn(12) {
		text += pick(r, "a", "b", " ", "\u4e00", "\U0001f300", "\n", "e\u0301", "\u0301", "\t", "\xff", "\xe4\xb8", "\u00e9", "xyz")
	}
	return text
}

// thrownList is a drawing list of so many strokes, and of Opens behind them.
func thrownList(r *rand.Rand, n int) []api.Stroke {
	var l []api.Stroke
	opened := 0
	for range n {
		switch r.Intn(9) {
		case 0, 1:
			l = append(l, fill(thrownRect(r), thrownColour(r)))
		case 2, 3:
			l = append(l, frame(thrownRect(r), thrownColour(r)))
		case 4, 5, 6:
			l = append(l, write(thrownRect(r), thrownText(r), thrownColour(r), thrownColour(r)))
		case 7:
			l = append(l, clip(pick(r, thrownRect(r), rect(r.Intn(4)-2, r.Intn(4)-2, 3+r.Intn(9), 2+r.Intn(6)))))
			opened++
		case 8:
			if opened > 0 {
				l = append(l, open())
				opened--
			}
		}
	}
	return append(l, slices.Repeat([]api.Stroke{open()}, opened)...)
}

// P15.2, P15.8: lists by chance, drawn on screens by chance.
func TestThrownDraw(t *testing.T) {
	r := rand.New(rand.NewSource(151))
	changed, halves := 0, 0
	for range 4000 {
		s, l, m := thrownScreen(r, thrownSize(r)), thrownList(r, r.Intn(16)), thrownList(r, r.Intn(6))
		got := drawn(t, s, l...)
		if want := modelDraw(s, l); !alike(got, want) {
			t.Fatalf("Draw(%v, %v): %v, not %v", s, l, got, want)
		}
		if !alike(got, s) {
			changed++
		}
		if strings.Contains(text(t, got), "\u4e00") {
			halves++
		}
		joinFollows(t, s, l, m)
		normFollows(t, s, l)
		withinFollows(t, r, s, l)
	}
	if changed < 2000 || halves < 500 {
		t.Errorf("%d changed, %d with wide runes", changed, halves)
	}
}

func joinFollows(t *testing.T, s api.Screen, l, m []api.Stroke) {
	t.Helper()
	both, e := list.Join(l, m)
	if e != api.OK {
		t.Fatal(e)
	}
	if got, want := drawn(t, drawn(t, s, l...), m...), drawn(t, s, both...); !alike(got, want) {
		t.Fatalf("Draw of %v, then of %v, on %v: %v, not %v", l, m, s, got, want)
	}
}

func normFollows(t *testing.T, s api.Screen, l []api.Stroke) {
	t.Helper()
	n, e := list.Norm(l)
	if e != api.OK {
		t.Fatal(e)
	}
	if got, want := drawn(t, s, n...), drawn(t, s, l...); !alike(got, want) {
		t.Fatalf("Draw of Norm of %v, %v, on %v: %v, not %v", l, n, s, got, want)
	}
}

func withinFollows(t *testing.T, r *rand.Rand, s api.Screen, l []api.Stroke) {
	t.Helper()
	var rects []api.Rect
	for range r.Intn(4) {
		rects = append(rects, rect(r.Intn(10)-1, r.Intn(6)-1, r.Intn(6), r.Intn(4)))
	}
	w, e := list.Within(l, rects)
	if e != api.OK {
		t.Fatal(e)
	}
	got, want := drawn(t, s, w...), drawn(t, s, l...)
	for i := range s.Cells {
		p := point(i%s.Size.W, i/s.Size.W)
		if !slices.ContainsFunc(rects, func(q api.Rect) bool { return modelHas(q, p) }) {
			want.Cells[i] = s.Cells[i]
		}
	}
	if !alike(got, want) {
		t.Fatalf("Draw of Within of %v in %v on %v: %v, not %v", l, rects, s, got, want)
	}
}

// P15.3, P15.4, P15.5, P15.9: screens by chance, and what is unlike in them.
func TestThrownRuns(t *testing.T) {
	r := rand.New(rand.NewSource(152))
	told, marked := 0, 0
	for range 6000 {
		a := thrownScreen(r, thrownSize(r))
		b := thrownNext(r, a)
		if x := text(t, b); x != modelText(b) || strings.Count(x, "\n") != b.Size.H {
			t.Fatalf("Text(%v): %q, not %q", b, x, modelText(b))
		}
		l, e := Runs(a, b)
		if want := modelRuns(a, b); !alikeRuns(l, want) || e != api.OK {
			t.Fatalf("Runs(%v, %v): %v, %d; %v", a, b, l, e, want)
		}
		if got, e := Put(a, l); !alike(got, b) || e != api.OK {
			t.Fatalf("Put(%v, %v): %v, %d; %v", a, l, got, e, b)
		}
		if l, e := Runs(a, a); len(l) > 0 || e != api.OK {
			t.Fatalf("Runs(%v) with itself: %v, %d", a, l, e)
		}
		x, e := Escapes(l)
		if want := modelEscapes(l); x != want || e != api.OK {
			t.Fatalf("Escapes(%v): %q, %d; %q", l, x, e, want)
		}
		if got, at, e := Read(a, x); !alike(got, b) || at != 0 || e != api.OK {
			t.Fatalf("Read(%v, %q): %v, %d, %d; %v", a, x, got, at, e, b)
		}
		told += len(l)
		marked += strings.Count(x, "\x0e") + strings.Count(x, "\x0f")
	}
	if told < 6000 || marked < 6000 {
		t.Errorf("%d runs, %d halves alone", told, marked)
	}
}

// P15.4, P15.5: runs that lie over one another, in any order.
func TestThrownPut(t *testing.T) {
	r := rand.New(rand.NewSource(153))
	for range 3000 {
		s := thrownScreen(r, size(1+r.Intn(9), 1+r.Intn(5)))
		want := api.Screen{Size: s.Size, Cells: slices.Clone(s.Cells)}
		var l []api.Run
		for range r.Intn(9) {
			x, y := r.Intn(s.Size.W), r.Intn(s.Size.H)
			one := run(x, y, thrownScreen(r, size(1+r.Intn(s.Size.W-x), 1)).Cells...)
			l = append(l, one)
			for i, c := range one.Cells {
				want.Cells[y*s.Size.W+x+i] = c
			}
		}
		if got, e := Put(s, l); !alike(got, want) || e != api.OK {
			t.Fatalf("Put(%v, %v): %v, %d; %v", s, l, got, e, want)
		}
		x, e := Escapes(l)
		if x != modelEscapes(l) || e != api.OK {
			t.Fatalf("Escapes(%v): %q, %d", l, x, e)
		}
		if got, _, e := Read(s, x); !alike(got, want) || e != api.OK {
			t.Fatalf("Read(%v, %q): %v, %d; %v", s, x, got, e, want)
		}
	}
}

// P15.6: texts by chance: such as are right, with bytes changed, taken out and put in.
func TestThrownRead(t *testing.T) {
	r := rand.New(rand.NewSource(154))
	right, wrong := 0, 0
	things := []string{
		"a", "b", " ", "\u4e00", "\U0001f300", "\x0e\u4e00", "\x0f\u4e00", "\u00e9", "\ufffd", "\x1b[1;1H", "\x1b[2;1H", "\x1b[1;3H", "\x1b[3;2H", "\x1b[38;2;255;0;0;255m", "\x1b[48;2;0;10;200;9m", "\x1b[38;2;0;0;0;0m",
		"\x0e", "\x0f", "\x1b", "\x1b[", "\xff", "\u0301", "\n", "\x1b[16384;16384H", "\x1b[16385;1H", "\x1b[38;2;256;0;0;0m", "\x1b[01;1H", ";", "0",
	}
	for range 40000 {
		s := thrownScreen(r, thrownSize(r))
		x := ""
		from := things
		if r.Intn(2) == 0 {
			from = things[:16]
		}
		for range r.Intn(8) {
			x += pick(r, from...)
		}
		if len(x) > 0 && r.Intn(4) == 0 {
			at := r.Intn(len(x))
			x = x[:at] + pick(r, "", string(rune(r.Intn(128))), ";", "0", "1", x[at:]) + x[at+r.Intn(2):]
		}
		got, at, e := Read(s, x)
		want, place, ok := modelRead(s, x)
		if at != place || ok != (e == api.OK) || !ok && (e != api.ErrCell || !isZero(got)) || ok && !alike(got, want) {
			t.Fatalf("Read(%v, %q): %v, %d, %d; %v, %d", s, x, got, at, e, want, place)
		}
		if ok {
			right++
		} else {
			wrong++
		}
	}
	if right < 5000 || wrong < 5000 {
		t.Errorf("%d right, %d wrong", right, wrong)
	}
}

// P15.1: screens by chance, some of which may not be.
func TestThrownCheck(t *testing.T) {
	r := rand.New(rand.NewSource(155))
	right, wrong := 0, 0
	for range 20000 {
		s := thrownScreen(r, thrownSize(r))
		for range r.Intn(3) {
			switch r.Intn(5) {
			case 0:
				s.Size.W = r.Intn(12) - 2
			case 1:
				s.Size.H = r.Intn(9) - 2
			case 2:
				s.Cells = s.Cells[:r.Intn(len(s.Cells)+1)]
			default:
				if len(s.Cells) > 0 {
					c := &s.Cells[r.Intn(len(s.Cells))]
					c.Rune = pick[rune](r, 'a', 0x4e00, c.Rune, rune(r.Uint32()), rune(r.Intn(0x110000)), rune(r.Intn(0x400)), 0xd7ff+rune(r.Intn(3)), 0xdffe+rune(r.Intn(3)))
					c.Wide, c.Tail = r.Intn(3) == 0, r.Intn(3) == 0
				}
			}
		}
		ok := modelScreen(s)
		if e := Check(s); ok != (e == api.OK) || !ok && e != api.ErrCell {
			t.Fatalf("Check(%v): %d", s, e)
		}
		if ok {
			right++
		} else {
			wrong++
		}
	}
	if right < 5000 || wrong < 5000 {
		t.Errorf("%d right, %d wrong", right, wrong)
	}
}

// P15.1: which runes a cell may have: each of them is asked.
func TestEachRune(t *testing.T) {
	for r := rune(-3); r < 0x110003; r++ {
		for _, c := range []api.Cell{plain(r), left(r, none, none), right(r, none, none)} {
			if e := Check(screen(1, 1, c)); (e == api.OK) != modelCell(c) {
				t.Fatalf("Check of %v: %d", c, e)
			}
		}
	}
}
