package vector

import (
	"slices"
	"testing"

	"casement/api"
)

const side = api.MaxSide

var (
	none  = api.Colour{}
	black = api.Colour{A: 255}
	white = api.Colour{R: 255, G: 255, B: 255, A: 255}
	red   = api.Colour{R: 255, A: 255}
	thin  = api.Colour{R: 1, G: 2, B: 3, A: 128}
)

func size(w, h int) api.Size { return api.Size{W: w, H: h} }
func rect(x, y, w, h int) api.Rect {
	return api.Rect{At: api.Point{X: x, Y: y}, Size: size(w, h)}
}

func fill(r api.Rect, c api.Colour, node int) api.Stroke {
	return api.Stroke{Kind: api.Fill, Rect: r, Colour: c, Node: node}
}

func frame(r api.Rect, c api.Colour, node int) api.Stroke {
	return api.Stroke{Kind: api.Frame, Rect: r, Colour: c, Node: node}
}

func write(r api.Rect, text string, c, back api.Colour, node int) api.Stroke {
	return api.Stroke{Kind: api.Write, Rect: r, Text: text, Colour: c, Back: back, Node: node}
}

func clip(r api.Rect, node int) api.Stroke { return api.Stroke{Kind: api.Clip, Rect: r, Node: node} }
func open(node int) api.Stroke             { return api.Stroke{Kind: api.Open, Node: node} }

// The first line of most texts here, and the last one.
const (
	head = "<shapes w=\"8\" h=\"3\">\n"
	tail = "</shapes>\n"
)

// whole is lines between the first and the last one.
func whole(lines ...string) string {
	text := head
	for _, x := range lines {
		text += x
	}
	return text + tail
}

// all is a list with each kind of strokes, and its lines.
func all() ([]api.Stroke, []string) {
	return []api.Stroke{
		fill(rect(-1, 0, 4, 4), red, 2),
		clip(rect(0, -12, 345, 2), 3),
		frame(rect(0, 0, 8, 3), thin, 0),
		write(rect(0, 0, 9, 1), "a b\xff&", white, none, 1<<20),
		open(7),
		write(rect(-side, -side, 2*side, 2*side), "", red, api.Colour{R: 0x12, G: 0x34, B: 0x56, A: 255}, 1),
	}, []string{
		"<fill x=\"-1\" y=\"0\" w=\"4\" h=\"4\" c=\"#f00\" n=\"2\"/>\n",
		"<clip x=\"0\" y=\"-12\" w=\"345\" h=\"2\" n=\"3\">\n",
		"<frame x=\"0\" y=\"0\" w=\"8\" h=\"3\" c=\"#01020380\" n=\"0\"/>\n",
		"<write x=\"0\" y=\"0\" w=\"9\" h=\"1\" c=\"#fff\" b=\"#00000000\" n=\"1048576\">a&20;b&ff;&26;</write>\n",
		"</clip n=\"7\">\n",
		"<write x=\"-16384\" y=\"-16384\" w=\"32768\" h=\"32768\" c=\"#f00\" b=\"#123456\" n=\"1\"></write>\n",
	}
}

// isNothing tells whether all that stands beside an error of Read is zero.
func isNothing(l []api.Stroke, s api.Size) bool { return len(l) == 0 && s == api.Size{} }

// bothWays asks Text of a list, and Read of the text.
func bothWays(t *testing.T, l []api.Stroke, s api.Size, want string) {
	t.Helper()
	text, e := Text(l, s)
	if text != want || e != api.OK {
		t.Errorf("Text(%v, %v): %q, %d; %q", l, s, text, e, want)
	}
	got, z, at, e := Read(want)
	if !slices.Equal(got, l) || z != s || at != 0 || e != api.OK {
		t.Errorf("Read(%q): %v, %v, %d, %d", want, got, z, at, e)
	}
}

// P16.1, P16.2: the text of each kind of strokes, and of none.
func TestLines(t *testing.T) {
	bothWays(t, nil, size(8, 3), head+tail)
	l, lines := all()
	bothWays(t, l, size(8, 3), whole(lines...))
	bothWays(t, []api.Stroke{l[0]}, size(8, 3), whole(lines[0]))
	bothWays(t, []api.Stroke{l[2]}, size(8, 3), whole(lines[2]))
	bothWays(t, []api.Stroke{l[3]}, size(8, 3), whole(lines[3]))
	bothWays(t, []api.Stroke{l[1], l[4]}, size(8, 3), whole(lines[1], lines[4]))
}

// P16.1, P16.2: each field of a kind, told by itself: none of them stands in another one's place.
func TestEachField(t *testing.T) {
	r, c, back := rect(1, 2, 3, 4), api.Colour{R: 5, G: 6, B: 7, A: 8}, api.Colour{R: 9, G: 10, B: 11, A: 12}
	for _, x := range []struct {
		l    []api.Stroke
		line string
	}{
		{[]api.Stroke{fill(r, c, 13)}, "<fill x=\"1\" y=\"2\" w=\"3\" h=\"4\" c=\"#05060708\" n=\"13\"/>\n"},
		{[]api.Stroke{frame(r, c, 13)}, "<frame x=\"1\" y=\"2\" w=\"3\" h=\"4\" c=\"#05060708\" n=\"13\"/>\n"},
		{[]api.Stroke{write(r, "t", c, back, 13)}, "<write x=\"1\" y=\"2\" w=\"3\" h=\"4\" c=\"#05060708\" b=\"#090a0b0c\" n=\"13\">t</write>\n"},
		{[]api.Stroke{clip(r, 13), open(14)}, "<clip x=\"1\" y=\"2\" w=\"3\" h=\"4\" n=\"13\">\n</clip n=\"14\">\n"},
	} {
		bothWays(t, x.l, size(8, 3), whole(x.line))
	}
}

// P16.1, P16.2: sizes of nought, of MaxSide, and those that may not be.
func TestSizes(t *testing.T) {
	bothWays(t, nil, size(0, 0), "<shapes w=\"0\" h=\"0\">\n</shapes>\n")
	bothWays(t, nil, size(0, side), "<shapes w=\"0\" h=\"16384\">\n</shapes>\n")
	bothWays(t, nil, size(side, 0), "<shapes w=\"16384\" h=\"0\">\n</shapes>\n")
	bothWays(t, nil, size(side, side), "<shapes w=\"16384\" h=\"16384\">\n</shapes>\n")
	for _, s := range []api.Size{size(-1, 0), size(0, -1), size(side+1, 0), size(0, side+1), size(-side, side), size(999999999, 1), size(-999999999, 1)} {
		if text, e := Text(nil, s); text != "" || e != api.ErrSize {
			t.Errorf("Text(none, %v): %q, %d", s, text, e)
		}
		if l, z, at, e := Read(modelText(nil, s)); !isNothing(l, z) || at != 0 || e != api.ErrSize {
			t.Errorf("Read of a size of %v: %v, %v, %d, %d", s, l, z, at, e)
		}
	}
	const least = -1 << 63
	for _, s := range []api.Size{size(least, 0), size(0, -(least + 1)), size(1e9, 1e9)} {
		if text, e := Text(nil, s); text != "" || e != api.ErrSize {
			t.Errorf("Text(none, %v): %q, %d", s, text, e)
		}
	}
}

// P16.1, P16.2: rectangles at the ends of what may be, and empty ones, which are handed on as they are.
func TestRects(t *testing.T) {
	for _, r := range []api.Rect{{}, rect(5, 6, 0, 0), rect(5, 6, 0, 7), rect(side, side, 0, 0), rect(-side, -side, 0, 2*side), rect(side-1, -side, 1, 1)} {
		for _, l := range [][]api.Stroke{{fill(r, red, 0)}, {frame(r, red, 0)}, {write(r, "x", red, red, 0)}, {clip(r, 0), open(0)}} {
			bothWays(t, l, size(1, 1), modelText(l, size(1, 1)))
		}
	}
}

// P16.1, P16.2: colours in their one form, of both fields.
func TestColours(t *testing.T) {
	for _, x := range []struct {
		c    api.Colour
		text string
	}{
		{none, "#00000000"},
		{black, "#000"},
		{white, "#fff"},
		{api.Colour{R: 0x11, G: 0xaa, B: 0xff, A: 255}, "#1af"},
		{api.Colour{R: 0x11, G: 0xaa, B: 0xfe, A: 255}, "#11aafe"},
		{api.Colour{R: 0x11, G: 0xaa, B: 0xff, A: 254}, "#11aafffe"},
		{api.Colour{R: 255, G: 255, B: 255}, "#ffffff00"},
	} {
		bothWays(t, []api.Stroke{fill(rect(0, 0, 1, 1), x.c, 0)}, size(8, 3), whole("<fill x=\"0\" y=\"0\" w=\"1\" h=\"1\" c=\""+x.text+"\" n=\"0\"/>\n"))
		bothWays(t, []api.Stroke{frame(rect(0, 0, 1, 1), x.c, 0)}, size(8, 3), whole("<frame x=\"0\" y=\"0\" w=\"1\" h=\"1\" c=\""+x.text+"\" n=\"0\"/>\n"))
		bothWays(t, []api.Stroke{write(rect(0, 0, 1, 1), "", x.c, red, 0)}, size(8, 3), whole("<write x=\"0\" y=\"0\" w=\"1\" h=\"1\" c=\""+x.text+"\" b=\"#f00\" n=\"0\"></write>\n"))
		bothWays(t, []api.Stroke{write(rect(0, 0, 1, 1), "", red, x.c, 0)}, size(8, 3), whole("<write x=\"0\" y=\"0\" w=\"1\" h=\"1\" c=\"#f00\" b=\""+x.text+"\" n=\"0\"></write>\n"))
	}
}

// P16.1, P16.2: texts of strokes, such as look like shapes among them.
func TestTexts(t *testing.T) {
	for _, x := range []string{"", " ", "\n", "\x00", "\x7f", "\x80\xff", "<", "</write>\n", "\">", "&", "&20;", "&lt;", "a\nb\tc", "\u4e00", "\xe4\xb8", "</shapes>\n", head} {
		l := []api.Stroke{write(rect(0, 0, 4, 1), x, red, none, 5)}
		bothWays(t, l, size(8, 3), whole("<write x=\"0\" y=\"0\" w=\"4\" h=\"1\" c=\"#f00\" b=\"#00000000\" n=\"5\">"+modelEscape(x)+"</write>\n"))
	}
}
