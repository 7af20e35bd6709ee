package vector

import (
	"math/rand"
	"slices"
	"strings"
	"testing"

	"casement/api"
	"casement/cells"
	"casement/list"
)

func pick[T any](r *rand.Rand, l ...T) T { return l[r.Intn(len(l))] }

func thrownColour(r *rand.Rand) api.Colour {
	part := func() uint8 { return pick(r, 0, 255, 0x11, 0x99, 0xaa, uint8(r.Intn(256))) }
	return pick(r, none, red, white, thin, api.Colour{R: part(), G: part(), B: part(), A: 255}, api.Colour{R: part(), G: part(), B: part(), A: part()})
}

func thrownRect(r *rand.Rand) api.Rect {
	if r.Intn(6) == 0 {
		return pick(r, api.Rect{}, rect(-side, -side, 2*side, 2*side), rect(-side, 1, side+3, 1), rect(2, -side, 1, side+2), rect(1, 1, 0, 3), rect(side, side, 0, 0))
	}
	return rect(r.Intn(12)-3, r.Intn(8)-2, r.Intn(10), r.Intn(7))
}

func thrownText(r *rand.Rand) string {
	text := ""
	for range r.Intn(9) {
		text += pick(r, "a", "b", " ", "\u4e00", "\n", "e\u0301", "\xff", "\x00", "&", "<", ">", "\"", ";", "&20;", "</write>\n", "~", "\x7f", string([]byte{byte(r.Intn(256))}))
	}
	return text
}

// thrownList is a drawing list of so many strokes, and of Opens behind them.
func thrownList(r *rand.Rand, n int) []api.Stroke {
	var l []api.Stroke
	opened := 0
	for range n {
		node := pick(r, 0, 1, 1<<20, r.Intn(1<<20))
		switch r.Intn(6) {
		case 0:
			l = append(l, fill(thrownRect(r), thrownColour(r), node))
		case 1:
			l = append(l, frame(thrownRect(r), thrownColour(r), node))
		case 2, 3:
			l = append(l, write(thrownRect(r), thrownText(r), thrownColour(r), thrownColour(r), node))
		case 4:
			l = append(l, clip(thrownRect(r), node))
			opened++
		case 5:
			if opened > 0 {
				l = append(l, open(node))
				opened--
			}
		}
	}
	return append(l, slices.Repeat([]api.Stroke{open(9)}, opened)...)
}

func thrownSize(r *rand.Rand) api.Size {
	return pick(r, size(r.Intn(12), r.Intn(6)), size(1+r.Intn(12), 1+r.Intn(6)), size(0, side), size(side, 3))
}

// P16.1, P16.2, P16.6 (W4): lists by chance there and back, and drawn both ways.
func TestThrownLists(t *testing.T) {
	r := rand.New(rand.NewSource(161))
	for range 4000 {
		l, s, back := thrownList(r, r.Intn(12)), thrownSize(r), thrownColour(r)
		text, e := Text(l, s)
		if text != modelText(l, s) || e != api.OK {
			t.Fatalf("Text(%v, %v): %q, %d", l, s, text, e)
		}
		got, z, at, e := Read(text)
		if !list.Same(got, l) || !slices.Equal(got, l) || z != s || at != 0 || e != api.OK {
			t.Fatalf("Read(%q): %v, %v, %d, %d", text, got, z, at, e)
		}
		sameScreens(t, l, s, text, back)
	}
}

// sameScreens asks whether Screen of a text is what its list makes of blanks.
func sameScreens(t *testing.T, l []api.Stroke, s api.Size, text string, back api.Colour) {
	t.Helper()
	blank, e := cells.Blank(s, back)
	if e != api.OK {
		t.Fatal(e)
	}
	want, e := cells.Draw(blank, l)
	if e != api.OK {
		t.Fatal(e)
	}
	got, at, e := Screen(text, back)
	if got.Size != want.Size || !slices.Equal(got.Cells, want.Cells) || at != 0 || e != api.OK {
		t.Fatalf("Screen(%q, %v): %v, %d, %d; %v", text, back, got, at, e, want)
	}
}

// P16.3, P16.6: each kind of strokes shows, and the back where none does.
func TestScreen(t *testing.T) {
	for _, back := range []api.Colour{none, black, thin} {
		l := []api.Stroke{fill(rect(0, 0, 4, 1), red, 1), clip(rect(0, 0, 3, 3), 0), frame(rect(0, 0, 6, 3), white, 2), open(0), write(rect(1, 1, 3, 2), "a\u4e00\n\xff", white, thin, 3)}
		sameScreens(t, l, size(6, 4), modelText(l, size(6, 4)), back)
		sameScreens(t, nil, size(2, 2), modelText(nil, size(2, 2)), back)
		sameScreens(t, nil, size(0, 0), modelText(nil, size(0, 0)), back)
	}
	got, _, _ := Screen(modelText([]api.Stroke{write(rect(1, 0, 9, 1), "ab", red, none, 0)}, size(4, 1)), black)
	want := []api.Cell{{Rune: ' ', Back: black}, {Rune: 'a', Colour: red, Back: black}, {Rune: 'b', Colour: red, Back: black}, {Rune: ' ', Back: black}}
	if !slices.Equal(got.Cells, want) {
		t.Errorf("%v, not %v", got.Cells, want)
	}
}

// behind is the place right behind the first mark in a text from any place on, or the text's end.
func behind(r *rand.Rand, s, mark string) int {
	at := r.Intn(len(s) + 1)
	if next := strings.Index(s[at:], mark); next >= 0 {
		return at + next + len(mark)
	}
	return len(s)
}

// withChange is a text with some bytes, a whole number or colour, or a line changed, taken out or put in.
func withChange(r *rand.Rand, s string) string {
	switch r.Intn(4) {
	case 0:
		from := behind(r, s, "=\"")
		_, rest, _ := strings.Cut(s[from:], "\"")
		return s[:from] + pick(r, "0", "-1", "-0", "01", "17", "-16385", "99999", "1048577", "999999999", "1000000000", "#f00", "#F00") + "\"" + rest
	case 1:
		from := behind(r, s, "\n")
		return s[:from] + pick(r, head, tail, "</clip n=\"0\">\n", "<clip x=\"0\" y=\"0\" w=\"1\" h=\"1\" n=\"0\">\n") + s[from:]
	}
	from := r.Intn(len(s) + 1)
	to := min(from+pick(r, 0, 0, 1, 1, r.Intn(9)), len(s))
	return s[:from] + pick(r, "", "0", "1", "-", "9", "f", "F", "#", "\"", "<", ">", "/", "&", ";", " ", "\n", "x", "\xff", "00", "-1", "#f00", "&20;", "\" n=\"") + s[to:]
}

// P16.2, P16.6: texts by chance: such as are right, and changed ones.
func TestThrownTexts(t *testing.T) {
	r := rand.New(rand.NewSource(162))
	seen := map[api.Errno]int{}
	for range 40000 {
		s := modelText(thrownList(r, r.Intn(5)), thrownSize(r))
		for range r.Intn(3) {
			s = withChange(r, s)
		}
		seen[agrees(t, s)]++
	}
	for _, e := range []api.Errno{api.OK, api.ErrVector, api.ErrSize, api.ErrArg, api.ErrRect, api.ErrClip} {
		if seen[e] < 100 {
			t.Errorf("%d came %d times", e, seen[e])
		}
	}
}

// P16.2: texts put together of pieces by chance, as they follow on one another and not.
func TestThrownPieces(t *testing.T) {
	r := rand.New(rand.NewSource(163))
	pieces := []string{"<shapes w=\"", "<fill x=\"", "<frame x=\"", "<write x=\"", "<clip x=\"", "</clip n=\"", "</shapes>\n", "\" y=\"", "\" w=\"", "\" h=\"", "\" c=\"", "\" b=\"", "\" n=\"", "\">\n", "\"/>\n", "\">", "</write>\n", "0", "1", "-1", "-", "#f00", "#", "a&20;"}
	for range 60000 {
		s := pick(r, "", "<shapes w=\"", head, head, head+"<fill x=\"0\" y=\"0\" w=\"1\" h=\"1\" c=\"", head+"<write x=\"0\" y=\"0\" w=\"1\" h=\"1\" c=\"#f00\" b=\"#f00\" n=\"0\">")
		for range r.Intn(9) {
			s += pick(r, pieces...)
		}
		agrees(t, s)
	}
}

// P16.4, P16.6: texts of any bytes, by chance.
func TestThrownEscapes(t *testing.T) {
	r := rand.New(rand.NewSource(164))
	for range 20000 {
		a, b := make([]byte, r.Intn(30)), thrownText(r)
		r.Read(a)
		one, other := Escape(string(a)), Escape(b)
		if one != modelEscape(string(a)) || other != modelEscape(b) {
			t.Fatalf("Escape(%q), Escape(%q): %q, %q", a, b, one, other)
		}
		if both := Escape(string(a) + b); both != one+other {
			t.Fatalf("Escape(%q): %q, not %q", string(a)+b, both, one+other)
		}
		if got, at, e := Plain(one + other); got != string(a)+b || at != 0 || e != api.OK {
			t.Fatalf("Plain(%q): %q, %d, %d", one+other, got, at, e)
		}
		changed := one + other
		if at := r.Intn(len(changed) + 1); at < len(changed) {
			changed = changed[:at] + pick(r, "", "&", ";", "0", "a", "A", " ", "\xff", "<") + changed[at+r.Intn(2):]
		}
		got, at, e := Plain(changed)
		want, place, ok := modelPlain(changed)
		if got != want || at != place || ok != (e == api.OK) || !ok && e != api.ErrVector {
			t.Fatalf("Plain(%q): %q, %d, %d; %q, %d", changed, got, at, e, want, place)
		}
		if ok && Escape(got) != changed {
			t.Fatalf("Escape(%q): %q, not %q", got, Escape(got), changed)
		}
	}
}

// R1: calls of what makes no sense end, and do not panic.
func TestAnything(t *testing.T) {
	r := rand.New(rand.NewSource(165))
	number := func() int { return pick(r, 0, 1, -1, side, side+1, 1<<20, 1<<20+1, -1<<63, 1<<63-1, r.Intn(40)-20) }
	for range 20000 {
		var l []api.Stroke
		for range r.Intn(4) {
			l = append(l, api.Stroke{Kind: uint8(r.Intn(8)), Rect: rect(number(), number(), number(), number()), Colour: thrownColour(r), Back: pick(r, none, red), Text: pick(r, "", "x"), Node: number()})
		}
		s := size(number(), number())
		text, e := Text(l, s)
		want := list.Check(l)
		if want == api.OK && (s.W < 0 || s.W > side || s.H < 0 || s.H > side) {
			want = api.ErrSize
		}
		if e != want || (text == "") != (e != api.OK) {
			t.Fatalf("Text(%v, %v): %q, %d; %d", l, s, text, e, want)
		}
		b := make([]byte, r.Intn(60))
		r.Read(b)
		agrees(t, string(b))
		agrees(t, head+string(b))
	}
	for _, s := range []string{strings.Repeat("<", api.MaxText), strings.Repeat("9", api.MaxText), "<shapes w=\"" + strings.Repeat("9", 60000), "<shapes w=\"-" + strings.Repeat("0", 60000), head + "<fill x=\"0\" y=\"0\" w=\"1\" h=\"1\" c=\"#" + strings.Repeat("f", 60000), strings.Repeat("\x00", api.MaxText)} {
		agrees(t, s)
	}
}
