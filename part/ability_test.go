package part

import (
	"math"
	"math/rand"
	"slices"
	"strings"
	"testing"

	"casement/api"
	"casement/geom"
)

// rooms are such as may be.
func rooms() []api.Size {
	var l []api.Size
	for _, w := range []int{0, 1, 2, 3, 6, 50, api.MaxSide} {
		for _, h := range []int{0, 1, 2, 9, api.MaxSide} {
			l = append(l, api.Size{W: w, H: h})
		}
	}
	return l
}

func TestMeasure(t *testing.T) {
	size := func(w, h int) api.Size { return api.Size{W: w, H: h} }
	long := strings.Repeat("a", api.MaxText)
	for _, c := range []struct {
		n    api.Node
		room api.Size
		want api.Size
	}{
		{api.Node{Kind: api.Label, Text: "ab\ncde"}, size(0, 0), size(3, 2)},
		{api.Node{Kind: api.Button, Text: "ok"}, size(0, 0), size(6, 1)},
		{api.Node{Kind: api.Gap, Min: size(3, 1)}, size(0, 0), size(3, 1)},
		{api.Node{Kind: api.Label, Text: "window", Max: size(4, 0)}, size(0, 0), size(4, 1)},
		{api.Node{Kind: api.Label, Text: "ab"}, size(1, 0), size(1, 1)},

		// The text of each kind.
		{api.Node{Kind: api.Label}, size(0, 0), size(0, 1)},
		{api.Node{Kind: api.Button}, size(0, 0), size(4, 1)},
		{api.Node{Kind: api.Field}, size(0, 0), size(1, 1)},
		{api.Node{Kind: api.Spinner}, size(0, 0), size(1, 1)},
		{api.Node{Kind: api.Label, Text: "one two three"}, size(0, 0), size(13, 1)},
		{api.Node{Kind: api.Label, Text: "one two three"}, size(5, 0), size(5, 1)}, // room does not turn it
		{api.Node{Kind: api.Label, Text: "\n"}, size(0, 0), size(0, 2)},
		{api.Node{Kind: api.Label, Text: "abc\n\n"}, size(0, 0), size(3, 3)},
		{api.Node{Kind: api.Label, Text: "\u4e00\ne\u0301\x01"}, size(0, 0), size(2, 2)},
		{api.Node{Kind: api.Label, Text: "\ufffd\tx"}, size(0, 0), size(2, 1)},
		{api.Node{Kind: api.Button, Text: "ab\ncde"}, size(0, 0), size(7, 2)},
		{api.Node{Kind: api.Field, Text: "ab\ncde"}, size(0, 0), size(4, 2)},
		{api.Node{Kind: api.Spinner, Text: "ab\ncde"}, size(0, 0), size(1, 1)},
		{api.Node{Kind: api.Box, Text: "ab\ncde"}, size(0, 0), size(0, 0)},
		{api.Node{Kind: api.Grid, Text: "ab\ncde"}, size(9, 9), size(0, 0)},
		{api.Node{Kind: api.Stack, Text: "ab\ncde"}, size(0, 0), size(0, 0)},
		{api.Node{Kind: api.Scroll, Text: "ab\ncde"}, size(0, 0), size(0, 0)},
		{api.Node{Kind: api.Gap, Text: "ab\ncde"}, size(0, 0), size(0, 0)},

		// The longest texts: no number is beyond what text there is.
		{api.Node{Kind: api.Label, Text: long}, size(0, 0), size(65536, 1)},
		{api.Node{Kind: api.Label, Text: long}, size(api.MaxSide, 0), size(api.MaxSide, 1)},
		{api.Node{Kind: api.Label, Text: long, Max: size(api.MaxSide, 0)}, size(0, 0), size(api.MaxSide, 1)},
		{api.Node{Kind: api.Button, Text: long}, size(0, 0), size(65540, 1)},
		{api.Node{Kind: api.Field, Text: long}, size(0, 0), size(65537, 1)},
		{api.Node{Kind: api.Label, Text: strings.Repeat("\n", api.MaxText)}, size(0, 0), size(0, 65537)},

		// Min, Max and room, in this order, each way for itself.
		{api.Node{Kind: api.Label, Text: "abc", Min: size(5, 4)}, size(0, 0), size(5, 4)},
		{api.Node{Kind: api.Label, Text: "abc", Min: size(2, 1)}, size(0, 0), size(3, 1)},
		{api.Node{Kind: api.Label, Text: "abc", Min: size(2, 0), Max: size(2, 9)}, size(0, 0), size(2, 1)},
		{api.Node{Kind: api.Label, Text: "a\nb\nc", Max: size(0, 2)}, size(0, 0), size(1, 2)},
		{api.Node{Kind: api.Label, Text: "a\nb\nc", Max: size(0, 2)}, size(0, 1), size(1, 1)},
		{api.Node{Kind: api.Label, Text: "abcd", Min: size(3, 3)}, size(2, 2), size(2, 2)},
		{api.Node{Kind: api.Box, Min: size(3, 0)}, size(2, 9), size(2, 0)},
		{api.Node{Kind: api.Box, Min: size(3, 7)}, size(0, 2), size(3, 2)},
		{api.Node{Kind: api.Scroll, Min: size(3, 7), Max: size(3, 7)}, size(9, 9), size(3, 7)},
		{api.Node{Kind: api.Stack, Max: size(3, 7)}, size(9, 9), size(0, 0)},
		{api.Node{Kind: api.Spinner, Min: size(2, 0)}, size(0, 0), size(2, 1)},
		{api.Node{Kind: api.Gap, Min: size(api.MaxSide, api.MaxSide)}, size(api.MaxSide, api.MaxSide), size(api.MaxSide, api.MaxSide)},
	} {
		if got, e := Measure(made(t, c.n), c.room); got != c.want || e != api.OK {
			t.Errorf("Measure of the kind %d, %.20q, %v, %v in %v: %v, %d, want %v", c.n.Kind, c.n.Text, c.n.Min, c.n.Max, c.room, got, int(e), c.want)
		}
	}
}

// TestMeasureRoom: which rooms may be, and that what can't measure is told ahead of them.
func TestMeasureRoom(t *testing.T) {
	label, canvas := made(t, api.Node{Kind: api.Label, Text: "ab"}), made(t, api.Node{Kind: api.Canvas})
	for _, n := range []int{math.MinInt, -16385, -1, 0, 1, 16384, 16385, math.MaxInt} {
		for _, room := range []api.Size{{W: n}, {H: n}, {W: n, H: n}, {W: n, H: 1}, {W: 16384, H: n}} {
			want := api.ErrSize
			if n >= 0 && n <= 16384 {
				want = api.OK
			}
			got, e := Measure(label, room)
			if e != want || e != api.OK && got != (api.Size{}) {
				t.Errorf("Measure in %v: %v, %d", room, got, int(e))
			}
			if got, e := Measure(&open{}, room); e != want || e == api.OK && got != room { // the room is handed on as it is
				t.Errorf("Measure of an open part in %v: %v, %d", room, got, int(e))
			}
			if got, e := Measure(&rash{}, room); got != (api.Size{}) || want == api.OK && e != api.ErrNone || want != api.OK && e != want {
				t.Errorf("Measure of a part that panics in %v: %v, %d", room, got, int(e))
			}
			for _, p := range []Part{canvas, nil, Nil(api.Label), &shy{}, &zero{}} {
				if got, e := Measure(p, room); e != api.ErrNone || got != (api.Size{}) {
					t.Errorf("Measure of %T in %v: %v, %d", p, room, got, int(e))
				}
			}
		}
	}
}

// TestMeasureAgainstModel holds thrown nodes against the model, and what P6.8 says of them.
func TestMeasureAgainstModel(t *testing.T) {
	dice := rand.New(rand.NewSource(64))
	for i := range 6000 {
		n := thrownNode(dice, modelKinds()[i%10])
		if n.Kind == api.Canvas {
			continue
		}
		p := made(t, n)
		whole, _ := Measure(p, api.Size{})
		for _, room := range rooms() {
			got, e := Measure(p, room)
			if want := modelMeasure(n, room); got != want || e != api.OK {
				t.Fatalf("Measure(%v, %v) = %v, %d, want %v", n, room, got, int(e), want)
			}
			if p.(Measurer).Measure(room) != got {
				t.Fatalf("Measure(%v, %v): the method tells something else", n, room)
			}
			if got.W < n.Min.W && got.W != room.W || got.H < n.Min.H && got.H != room.H {
				t.Fatalf("Measure(%v, %v) = %v: below Min", n, room, got)
			}
			if got.W > whole.W || got.H > whole.H || room.W > 0 && got.W > room.W || room.H > 0 && got.H > room.H {
				t.Fatalf("Measure(%v, %v) = %v, and %v without a room", n, room, got, whole)
			}
			less := api.Size{W: max(room.W-1, 1), H: max(room.H-1, 1)}
			if tight, _ := Measure(p, less); room.W > 0 && tight.W > got.W || room.H > 0 && tight.H > got.H {
				t.Fatalf("Measure(%v, %v) = %v, with less room %v", n, room, got, tight)
			}
		}
	}
}

func TestStrokes(t *testing.T) {
	rect := func(x, y, w, h int) api.Rect { return api.Rect{At: api.Point{X: x, Y: y}, Size: api.Size{W: w, H: h}} }
	r := rect(-3, 5, 8, 5)
	full := api.Look{Has: 15, Colour: red, Back: blue, Border: true, Pad: 1}
	write := func(r api.Rect, colour, back api.Colour, text string) api.Stroke {
		return api.Stroke{Kind: api.Write, Rect: r, Colour: colour, Back: back, Text: text}
	}
	fill := api.Stroke{Kind: api.Fill, Rect: r, Colour: blue}
	none, zeroed := api.Colour{}, api.Colour{}
	for _, c := range []struct {
		kind uint8
		text string
		r    api.Rect
		look api.Look
		want []api.Stroke
	}{
		{api.Button, "ok", rect(0, 0, 8, 3), api.Look{Has: 4, Border: true}, []api.Stroke{{Kind: api.Frame, Rect: rect(0, 0, 8, 3), Colour: white}, write(rect(1, 1, 6, 1), white, none, "[ ok ]")}},
		{api.Label, "", r, api.Look{}, nil},
		{api.Label, "ab", rect(0, 0, 0, 0), full, nil},

		// The text of each kind.
		{api.Label, "a\nb", r, api.Look{}, []api.Stroke{write(r, white, none, "a\nb")}},
		{api.Label, "\n", r, api.Look{}, []api.Stroke{write(r, white, none, "\n")}},
		{api.Field, "ab", r, api.Look{}, []api.Stroke{write(r, white, none, "ab")}},
		{api.Field, "", r, api.Look{}, nil},
		{api.Button, "", r, api.Look{}, []api.Stroke{write(r, white, none, "[  ]")}},
		{api.Button, "a\nb", r, api.Look{}, []api.Stroke{write(r, white, none, "[ a\nb ]")}},
		{api.Spinner, "", r, api.Look{}, []api.Stroke{write(r, white, none, "*")}},
		{api.Spinner, "ab", r, api.Look{}, []api.Stroke{write(r, white, none, "*")}},
		{api.Canvas, "ab", r, api.Look{}, nil},
		{api.Scroll, "ab", r, api.Look{}, nil},

		// One behind the other.
		{api.Label, "ab", r, full, []api.Stroke{fill, {Kind: api.Frame, Rect: r, Colour: red}, write(rect(-1, 7, 4, 1), red, blue, "ab")}},
		{api.Canvas, "ab", r, full, []api.Stroke{fill, {Kind: api.Frame, Rect: r, Colour: red}}},
		{api.Scroll, "ab", r, full, []api.Stroke{fill, {Kind: api.Frame, Rect: r, Colour: red}}},
		{api.Label, "", r, full, []api.Stroke{fill, {Kind: api.Frame, Rect: r, Colour: red}}},

		// What a look tells, thing by thing; what it does not tell counts for nothing.
		{api.Label, "ab", r, api.Look{Has: 1, Colour: red, Back: blue, Border: true, Pad: 1}, []api.Stroke{write(r, red, none, "ab")}},
		{api.Label, "ab", r, api.Look{Has: 2, Colour: red, Back: blue, Border: true, Pad: 1}, []api.Stroke{fill, write(r, white, blue, "ab")}},
		{api.Label, "ab", r, api.Look{Has: 4, Colour: red, Back: blue, Border: true, Pad: 1}, []api.Stroke{{Kind: api.Frame, Rect: r, Colour: white}, write(rect(-2, 6, 6, 3), white, none, "ab")}},
		{api.Label, "ab", r, api.Look{Has: 8, Colour: red, Back: blue, Border: true, Pad: 2}, []api.Stroke{write(rect(-1, 7, 4, 1), white, none, "ab")}},
		{api.Label, "ab", r, api.Look{Has: 0xf0, Colour: red, Back: blue, Border: true, Pad: 2}, []api.Stroke{write(r, white, none, "ab")}},
		{api.Label, "ab", r, api.Look{Colour: red, Back: blue, Border: true, Pad: 2}, []api.Stroke{write(r, white, none, "ab")}},

		// What is told as zero, or as false, is told.
		{api.Label, "ab", r, api.Look{Has: 4}, []api.Stroke{write(r, white, none, "ab")}},
		{api.Canvas, "", r, api.Look{Has: 4}, nil},
		{api.Label, "ab", r, api.Look{Has: 15}, []api.Stroke{{Kind: api.Fill, Rect: r}, write(r, zeroed, zeroed, "ab")}},
		{api.Label, "ab", r, api.Look{Has: 5, Border: true}, []api.Stroke{{Kind: api.Frame, Rect: r}, write(rect(-2, 6, 6, 3), zeroed, none, "ab")}},
		{api.Label, "ab", r, api.Look{Has: 12, Border: true}, []api.Stroke{{Kind: api.Frame, Rect: r, Colour: white}, write(rect(-2, 6, 6, 3), white, none, "ab")}},

		// Frames and pads that leave nothing, one way or both.
		{api.Label, "ab", rect(0, 0, 2, 9), api.Look{Has: 4, Border: true}, []api.Stroke{{Kind: api.Frame, Rect: rect(0, 0, 2, 9), Colour: white}}},
		{api.Label, "ab", rect(0, 0, 9, 2), api.Look{Has: 4, Border: true}, []api.Stroke{{Kind: api.Frame, Rect: rect(0, 0, 9, 2), Colour: white}}},
		{api.Label, "ab", rect(0, 0, 1, 1), api.Look{Has: 4, Border: true}, []api.Stroke{{Kind: api.Frame, Rect: rect(0, 0, 1, 1), Colour: white}}},
		{api.Label, "ab", rect(0, 0, 3, 3), api.Look{Has: 4, Border: true}, []api.Stroke{{Kind: api.Frame, Rect: rect(0, 0, 3, 3), Colour: white}, write(rect(1, 1, 1, 1), white, none, "ab")}},
		{api.Label, "ab", rect(0, 0, 4, 9), api.Look{Has: 8, Pad: 2}, nil},
		{api.Label, "ab", rect(0, 0, 5, 9), api.Look{Has: 8, Pad: 2}, []api.Stroke{write(rect(2, 2, 1, 5), white, none, "ab")}},
		{api.Spinner, "", rect(0, 0, 9, 4), api.Look{Has: 8, Pad: 2}, nil},
		{api.Button, "ab", rect(0, 0, 9, 9), api.Look{Has: 8, Pad: api.MaxSide}, nil},
		{api.Field, "ab", rect(0, 0, 9, 4), api.Look{Has: 12, Border: true, Pad: 1}, []api.Stroke{{Kind: api.Frame, Rect: rect(0, 0, 9, 4), Colour: white}}},
		{api.Label, "ab", rect(-16384, -16384, 32768, 32768), api.Look{Has: 8, Pad: 16383}, []api.Stroke{write(rect(-1, -1, 2, 2), white, none, "ab")}},
		{api.Label, "ab", rect(-16384, -16384, 32768, 32768), api.Look{Has: 8, Pad: 16384}, nil},
		{api.Label, "ab", rect(-16384, -16384, 32768, 32768), api.Look{Has: 12, Border: true, Pad: 16384}, []api.Stroke{{Kind: api.Frame, Rect: rect(-16384, -16384, 32768, 32768), Colour: white}}},
		{api.Label, "ab", rect(-16384, -16384, 32768, 32768), api.Look{Has: 12, Border: true, Pad: 16383}, []api.Stroke{{Kind: api.Frame, Rect: rect(-16384, -16384, 32768, 32768), Colour: white}}},

		// Rectangles without a place.
		{api.Label, "ab", rect(1, 2, 0, 9), full, nil}, {api.Canvas, "", rect(1, 2, 9, 0), full, nil}, {api.Spinner, "", rect(16384, 16384, 0, 0), full, nil},
	} {
		got, e := Strokes(made(t, api.Node{Kind: c.kind, Text: c.text, Min: api.Size{W: 3}}), c.r, c.look)
		if e != api.OK || !slices.Equal(got, c.want) {
			t.Errorf("Strokes of the kind %d, %q in %v by %v:\n%v, %d, want\n%v", c.kind, c.text, c.r, c.look, got, int(e), c.want)
		}
	}
}

// TestLongButton: brackets stand about a text as long as that may be written.
func TestLongButton(t *testing.T) {
	r := api.Rect{Size: api.Size{W: 9, H: 1}}
	for _, length := range []int{api.MaxText - 5, api.MaxText - 4, api.MaxText - 3, api.MaxText} {
		text := strings.Repeat("b", length)
		want := "[ " + text + " ]"
		if length > api.MaxText-4 {
			want = text
		}
		for _, c := range []struct {
			kind uint8
			want string
		}{{api.Button, want}, {api.Label, text}, {api.Field, text}, {api.Spinner, "*"}} {
			l, e := Strokes(made(t, api.Node{Kind: c.kind, Text: text}), r, api.Look{})
			if e != api.OK || len(l) != 1 || l[0].Text != c.want {
				t.Errorf("a text of %d bytes of the kind %d is not written as told: %d strokes, %d", length, c.kind, len(l), int(e))
			}
		}
	}
}

// TestStrokesErrors: what can't paint ahead of the rectangle, that ahead of the pad, that ahead of a panic.
func TestStrokesErrors(t *testing.T) {
	good := api.Rect{Size: api.Size{W: 4, H: 4}}
	bad := []api.Rect{{Size: api.Size{W: -1}}, {Size: api.Size{W: 4, H: -1}}, {At: api.Point{X: -16385}, Size: api.Size{W: 1, H: 1}}, {At: api.Point{Y: 1}, Size: api.Size{W: 1, H: 16384}}, {At: api.Point{X: math.MaxInt}, Size: api.Size{W: 1}}}
	empty := api.Rect{At: api.Point{X: 3}, Size: api.Size{H: 4}}
	canPaint := []Part{made(t, api.Node{Kind: api.Label, Text: "a"}), made(t, api.Node{Kind: api.Canvas}), made(t, api.Node{Kind: api.Scroll}), made(t, api.Node{Kind: api.Spinner}), &rash{}}
	cannot := []Part{nil, Nil(api.Label), Nil(api.Canvas), made(t, api.Node{Kind: api.Gap}), made(t, api.Node{Kind: api.Box}), &shy{}, &open{}, &zero{}}
	ask := func(p Part, r api.Rect, look api.Look, want api.Errno) {
		t.Helper()
		if l, e := Strokes(p, r, look); e != want || e != api.OK && len(l) != 0 {
			t.Errorf("Strokes(%T, %v, %v): %v, %d, want %d", p, r, look, l, int(e), int(want))
		}
	}
	for _, has := range []uint8{0, 7, 8, 15, 255} {
		for _, pad := range []int{math.MinInt, -16384, -1, 0, 1, 16384, 16385, math.MaxInt} {
			look := api.Look{Has: has, Border: true, Pad: pad}
			for _, p := range canPaint {
				want := api.OK
				if _, panics := p.(*rash); panics {
					want = api.ErrNone
				}
				if pad < 0 || pad > 16384 {
					want = api.ErrArg // whether it is told or not
				}
				ask(p, good, look, want)
				ask(p, empty, look, want)
				for _, r := range bad {
					ask(p, r, look, api.ErrRect)
				}
			}
			for _, p := range cannot {
				for _, r := range append(bad, good, empty) {
					ask(p, r, look, api.ErrNone)
				}
			}
		}
	}
	// Asked itself, without the call, a part paints nothing in what may not be.
	for _, p := range canPaint[:4] {
		for _, r := range bad {
			if l := p.(Painter).Strokes(r, api.Look{Has: 7, Border: true}); len(l) != 0 {
				t.Errorf("the kind %d paints %v in %v", p.Kind(), l, r)
			}
		}
	}
}

// TestStrokesAgainstModel holds thrown nodes, rectangles and looks against the model, and what P6.9 says of them.
func TestStrokesAgainstModel(t *testing.T) {
	dice := rand.New(rand.NewSource(65))
	kinds := []uint8{api.Label, api.Button, api.Field, api.Spinner, api.Canvas, api.Scroll}
	colour := func() api.Colour { return []api.Colour{{}, red, blue, {R: 1, G: 2, B: 3, A: 4}}[dice.Intn(4)] }
	for i := range 40000 {
		n := thrownNode(dice, kinds[i%len(kinds)])
		r := api.Rect{At: api.Point{X: dice.Intn(9) - 5, Y: dice.Intn(9) - 5}, Size: api.Size{W: dice.Intn(12), H: dice.Intn(9)}}
		look := api.Look{Has: uint8(dice.Intn(256)), Colour: colour(), Back: colour(), Border: dice.Intn(2) == 0, Pad: dice.Intn(4)}
		p := made(t, n)
		got, e := Strokes(p, r, look)
		if want := modelStrokes(n, r, look); e != api.OK || !slices.Equal(got, want) {
			t.Fatalf("Strokes(%v, %v, %v) = %v, %d, want %v", n, r, look, got, int(e), want)
		}
		for _, s := range got {
			if geom.Empty(s.Rect) || !geom.In(s.Rect, r) {
				t.Fatalf("Strokes(%v, %v, %v): %v does not lie in it", n, r, look, s)
			}
		}
		for k := range got {
			got[k] = api.Stroke{Node: 7}
		}
		if again := p.(Painter).Strokes(r, look); slices.ContainsFunc(again, func(s api.Stroke) bool { return s.Node == 7 }) {
			t.Fatalf("Strokes(%v, %v, %v): two answers share memory", n, r, look)
		}
	}
}

// TestOrderOffsetTakes: P6.6, by each kind that can.
func TestOrderOffsetTakes(t *testing.T) {
	for _, kind := range []uint8{api.Button, api.Field, api.Scroll} {
		for _, order := range []int{-1, 0, 1, 3, 1 << 20} {
			if got, e := Order(made(t, api.Node{Kind: kind, Order: order})); got != order || e != api.OK {
				t.Errorf("Order of the kind %d: %d, %d, want %d", kind, got, int(e), order)
			}
		}
	}
	for _, off := range []api.Point{{}, {X: 1, Y: 2}, {X: 1 << 20}, {Y: 1 << 20}} {
		if got, e := Offset(made(t, api.Node{Kind: api.Scroll, Off: off})); got != off || e != api.OK {
			t.Errorf("Offset: %v, %d, want %v", got, int(e), off)
		}
	}
	for _, kind := range []string{"text", "", "file", "Text", "text ", " text", "tex", "texts", "text\x00", "\xff", strings.Repeat("text", 1<<16)} {
		if got, e := Takes(made(t, api.Node{Kind: api.Field, Name: "file", Text: "file"}), kind); got != (kind == "text") || e != api.OK {
			t.Errorf("a Field Takes %.20q: %v, %d", kind, got, int(e))
		}
		for _, p := range []Part{made(t, api.Node{Kind: api.Button}), nil, Nil(api.Field), &shy{}, &rash{}, &zero{}} {
			if got, e := Takes(p, kind); got || e != api.ErrNone {
				t.Errorf("%T Takes %.20q: %v, %d", p, kind, got, int(e))
			}
		}
	}
}
