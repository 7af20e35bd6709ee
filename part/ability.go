package part

import (
	"slices"

	"casement/api"
	"casement/geom"
	"casement/runes"
)

// The abilities, each with what it keeps of a node. Their methods take values: promoted to a hollow part, they panic.

// measuring asks for a size: what the text and Min ask, at most Max.
type measuring struct {
	asked api.Size
	most  api.Size
}

func measuringOf(n api.Node) measuring {
	text := textSize(n)
	return measuring{
		asked: api.Size{W: max(text.W, n.Min.W), H: max(text.H, n.Min.H)},
		most:  n.Max,
	}
}

// textSize is as much as a node's text takes with what stands about it.
func textSize(n api.Node) api.Size {
	switch n.Kind {
	case api.Label:
		return linesSize(n.Text, 0)
	case api.Button:
		return linesSize(n.Text, 4) // also where the text is so long that it stands without brackets
	case api.Field:
		return linesSize(n.Text, 1) // a caret may stand behind the text
	case api.Spinner:
		return api.Size{W: 1, H: 1}
	}
	return api.Size{}
}

func linesSize(text string, wider int) api.Size {
	lines, widest := runes.Lines(text, 0)
	return api.Size{W: widest + wider, H: len(lines)}
}

func (m measuring) Measure(room api.Size) api.Size {
	return api.Size{
		W: atMost(atMost(m.asked.W, m.most.W), room.W),
		H: atMost(atMost(m.asked.H, m.most.H), room.H),
	}
}

// atMost is a number within a bound; one that is not above 0 is none.
func atMost(n, bound int) int {
	if bound > 0 {
		return min(n, bound)
	}
	return n
}

// The things that a look may tell, as bits of its Has.
const (
	tellsColour uint8 = 1 << iota
	tellsBack
	tellsBorder
	tellsPad
)

// painting paints a back, a border and a text; without a text it writes nothing.
type painting struct {
	text string
}

// What stands about a Button's text, and what a Spinner shows.
const (
	bracketOpen  = "[ "
	bracketClose = " ]"
	spinnerText  = "*"
)

// written is the text that a node's part writes.
func written(n api.Node) string {
	switch n.Kind {
	case api.Label, api.Field:
		return n.Text
	case api.Button:
		return bracketed(n.Text)
	case api.Spinner:
		return spinnerText
	}
	return ""
}

// bracketed is a text in brackets, if it may be so long.
func bracketed(text string) string {
	if len(bracketOpen)+len(text)+len(bracketClose) > api.MaxText {
		return text
	}
	return bracketOpen + text + bracketClose
}

func (p painting) Strokes(r api.Rect, look api.Look) []api.Stroke {
	if geom.Empty(r) {
		return nil
	}
	var strokes []api.Stroke
	if look.Has&tellsBack != 0 {
		strokes = append(strokes, api.Stroke{Kind: api.Fill, Rect: r, Colour: look.Back})
	}
	if framed(look) {
		strokes = append(strokes, api.Stroke{Kind: api.Frame, Rect: r, Colour: colourOf(look)})
	}
	if left := leftOf(r, look); p.text != "" && !geom.Empty(left) {
		strokes = append(strokes, api.Stroke{Kind: api.Write, Rect: left, Colour: colourOf(look), Back: backOf(look), Text: p.text})
	}
	return strokes
}

func framed(look api.Look) bool {
	return look.Has&tellsBorder != 0 && look.Border
}

// colourOf is the colour that a look tells; else white.
func colourOf(look api.Look) api.Colour {
	if look.Has&tellsColour != 0 {
		return look.Colour
	}
	return api.Colour{R: 255, G: 255, B: 255, A: 255}
}

// backOf is the back that a look tells; else none, which leaves what is behind.
func backOf(look api.Look) api.Colour {
	if look.Has&tellsBack != 0 {
		return look.Back
	}
	return api.Colour{}
}

// leftOf is what a frame and a pad leave of a rectangle; the zero one, if they leave nothing.
func leftOf(r api.Rect, look api.Look) api.Rect {
	if framed(look) {
		r, _ = geom.Inset(r, 1) // what is smaller than a rectangle that may be may be, too
	}
	if look.Has&tellsPad != 0 {
		r, _ = geom.Inset(r, look.Pad)
	}
	return r
}

// focusing has a place in the order of the focus.
type focusing struct {
	order int
}

func (f focusing) Order() int {
	return f.order
}

// scrolling has scrolled what it holds so far.
type scrolling struct {
	off api.Point
}

func (s scrolling) Offset() api.Point {
	return s.off
}

// droppedText is the kind of what a Field takes.
const droppedText = "text"

// accepting takes what is dropped on it, if it is of a kind.
type accepting struct {
	takes string
}

func (a accepting) Takes(kind string) bool {
	return kind == a.takes
}

// holding holds parts.
type holding struct {
	parts []Part
}

func (h holding) Parts() []Part {
	return slices.Clone(h.parts)
}
