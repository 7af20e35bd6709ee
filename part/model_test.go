package part

import (
	"math/rand"
	"strings"
	"testing"

	"casement/api"
	"casement/runes"
)

var (
	red   = api.Colour{R: 255, A: 255}
	blue  = api.Colour{B: 255, A: 255}
	white = api.Colour{R: 255, G: 255, B: 255, A: 255}
)

// modelKinds are all ten.
func modelKinds() []uint8 {
	return []uint8{api.Label, api.Button, api.Field, api.Box, api.Grid, api.Scroll, api.Spinner, api.Canvas, api.Gap, api.Stack}
}

// modelCan is the document's table of what kinds can.
func modelCan(kind uint8) uint16 {
	const measure, paint, focus, scroll, accept, hold = 1, 2, 4, 8, 16, 32
	switch kind {
	case api.Label, api.Spinner:
		return measure | paint
	case api.Button:
		return measure | paint | focus
	case api.Field:
		return measure | paint | focus | accept
	case api.Box, api.Grid, api.Stack:
		return measure | hold
	case api.Scroll:
		return measure | paint | focus | scroll | hold
	case api.Canvas:
		return paint
	case api.Gap:
		return measure
	}
	return 0
}

// modelMust is the lowest bit of a mask that an ability set does not have.
func modelMust(can, mask uint16) (uint16, api.Errno) {
	for _, bit := range []uint16{1, 2, 4, 8, 16, 32} {
		if mask&bit != 0 && can&bit == 0 {
			return bit, api.ErrPart
		}
	}
	return 0, api.OK
}

// modelMeasure is P6.4, word by word.
func modelMeasure(n api.Node, room api.Size) api.Size {
	wide, high := 0, 0
	for line := range strings.SplitSeq(n.Text, "\n") {
		cells, _ := runes.Cells(line)
		wide = max(wide, cells)
		high++
	}
	switch n.Kind {
	case api.Label:
	case api.Button:
		wide += 4
	case api.Field:
		wide++
	case api.Spinner:
		wide, high = 1, 1
	default:
		wide, high = 0, 0
	}
	one := func(n, least, most, room int) int {
		if n < least {
			n = least
		}
		if most > 0 && n > most {
			n = most
		}
		if room > 0 && n > room {
			n = room
		}
		return n
	}
	return api.Size{W: one(wide, n.Min.W, n.Max.W, room.W), H: one(high, n.Min.H, n.Max.H, room.H)}
}

// modelText is the text that a node's part writes, by P6.5; "" of kinds that write none.
func modelText(n api.Node) string {
	switch n.Kind {
	case api.Label, api.Field:
		return n.Text
	case api.Spinner:
		return "*"
	case api.Button:
		if whole := "[ " + n.Text + " ]"; len(whole) <= api.MaxText {
			return whole
		}
		return n.Text
	}
	return ""
}

// modelStrokes is P6.5, word by word, of a rectangle that may be.
func modelStrokes(n api.Node, r api.Rect, look api.Look) []api.Stroke {
	var l []api.Stroke
	if r.Size.W == 0 || r.Size.H == 0 {
		return l
	}
	colour, back, off := white, api.Colour{}, 0
	if look.Has&1 != 0 {
		colour = look.Colour
	}
	if look.Has&2 != 0 {
		back = look.Back
		l = append(l, api.Stroke{Kind: api.Fill, Rect: r, Colour: back})
	}
	if look.Has&4 != 0 && look.Border {
		off++
		l = append(l, api.Stroke{Kind: api.Frame, Rect: r, Colour: colour})
	}
	if look.Has&8 != 0 {
		off += look.Pad
	}
	left := api.Rect{At: api.Point{X: r.At.X + off, Y: r.At.Y + off}, Size: api.Size{W: r.Size.W - 2*off, H: r.Size.H - 2*off}}
	if text := modelText(n); text != "" && left.Size.W > 0 && left.Size.H > 0 {
		l = append(l, api.Stroke{Kind: api.Write, Rect: left, Colour: colour, Back: back, Text: text})
	}
	return l
}

// made is the part of a node that may be.
func made(t *testing.T, n api.Node, parts ...Part) Part {
	t.Helper()
	p, e := Make(n, parts)
	if e != api.OK || p == nil {
		t.Fatalf("Make of the kind %d with %d parts: %v, %d", n.Kind, len(parts), p, int(e))
	}
	return p
}

// codes are the errors of the six calls, in the order of their abilities; all that stands beside an error must be zero.
func codes(t *testing.T, p Part) [6]api.Errno {
	t.Helper()
	size, measured := Measure(p, api.Size{})
	strokes, painted := Strokes(p, api.Rect{Size: api.Size{W: 9, H: 9}}, api.Look{Has: 2})
	order, focused := Order(p)
	off, scrolled := Offset(p)
	takes, accepted := Takes(p, "text")
	parts, held := Parts(p)
	if measured != api.OK && size != (api.Size{}) || painted != api.OK && len(strokes) != 0 ||
		focused != api.OK && order != 0 || scrolled != api.OK && off != (api.Point{}) ||
		accepted != api.OK && takes || held != api.OK && len(parts) != 0 {
		t.Errorf("beside an error: %v, %v, %d, %v, %v, %v", size, strokes, order, off, takes, parts)
	}
	return [6]api.Errno{measured, painted, focused, scrolled, accepted, held}
}

// codesOf is what the six calls must tell of a part that can this.
func codesOf(can uint16) [6]api.Errno {
	var l [6]api.Errno
	for i := range l {
		if can&(1<<i) == 0 {
			l[i] = api.ErrNone
		}
	}
	return l
}

// thrownNode is some node that may be, of a kind.
func thrownNode(dice *rand.Rand, kind uint8) api.Node {
	texts := []string{"", "a", "ok", "ab\ncde", "\n", "\n\n", "one two three", "\u4e00\u4e8c", "e\u0301", "a\tb\x01", "\u0301", "\ufffd", strings.Repeat("x\n", 9)}
	side := func() int { return []int{0, 0, 1, 2, 3, 7, 20, api.MaxSide}[dice.Intn(8)] }
	n := api.Node{Kind: kind, Name: texts[dice.Intn(len(texts))], Text: texts[dice.Intn(len(texts))], Min: api.Size{W: side(), H: side()}, Order: dice.Intn(9) - 1, Off: api.Point{X: dice.Intn(9), Y: dice.Intn(9)}}
	if w := side(); w == 0 || w >= n.Min.W {
		n.Max.W = w
	}
	if h := side(); h == 0 || h >= n.Min.H {
		n.Max.H = h
	}
	return n
}

// The parts that follow are none of the package's: what its calls answer of them hangs on assertions alone.

// shy can nothing.
type shy struct{}

func (*shy) Kind() uint8  { return api.Canvas }
func (*shy) Name() string { return "shy" }

// rash has all abilities, and all of them panic.
type rash struct{ shy }

func (*rash) Measure(room api.Size) api.Size                 { panic("measured") }
func (*rash) Strokes(r api.Rect, look api.Look) []api.Stroke { panic("painted") }
func (*rash) Order() int                                     { panic(7) }
func (*rash) Offset() api.Point                              { var p *api.Point; return *p }
func (*rash) Takes(kind string) bool                         { return kind[len(kind)+1:] == "" }
func (*rash) Parts() []Part                                  { panic(nil) }

// open holds parts in a list that it hands out itself, and answers whatever it is asked with.
type open struct {
	shy
	held []Part
}

func (o *open) Measure(room api.Size) api.Size { return room }
func (o *open) Parts() []Part                  { return o.held }

// zero has all abilities, but its Kind is 0, though it is no nil pointer.
type zero struct{ open }

func (*zero) Kind() uint8                                    { return 0 }
func (*zero) Strokes(r api.Rect, look api.Look) []api.Stroke { return make([]api.Stroke, 1) }
func (*zero) Order() int                                     { return 1 }
func (*zero) Offset() api.Point                              { return api.Point{X: 1} }
func (*zero) Takes(kind string) bool                         { return true }
