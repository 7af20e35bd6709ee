package wrap

import (
	"casement/api"
	"casement/geom"
	"casement/part"
)

// half is a wrapper of the kind WrapHalf: always a nil pointer, so it keeps nothing of what it stands about.
type half struct{}

func (*half) Kind() uint8 {
	return 0
}

func (*half) Name() string {
	return ""
}

func (*half) Unwrap() part.Part {
	return nil
}

// wrapped is what all other wrappers have.
type wrapped struct {
	inner part.Part
	wrap  api.Wrap
}

func (w *wrapped) Kind() uint8 {
	if kind := w.inner.Kind(); kind != 0 {
		return kind
	}
	return api.Gap // a wrapper about a hollow part is not hollow, so it must be of some kind
}

func (w *wrapped) Name() string {
	if w.wrap.Kind == api.WrapName {
		return w.wrap.Text
	}
	return w.inner.Name()
}

func (w *wrapped) Unwrap() part.Part {
	return w.inner
}

func (w *wrapped) wrappers() int {
	return 1 + wrappersOf(w.inner)
}

// counted is what the package made that stands about another part.
type counted interface{ wrappers() int }

// wrappersOf is how many wrappers stand about one another at the outside of a part. What has an Unwrap of its own, but comes from elsewhere, is none.
func wrappersOf(p part.Part) int {
	switch w := p.(type) {
	case *half:
		return 0
	case counted:
		return w.wrappers()
	}
	return 0
}

// unwrapped is the part that is one step further inside; no part, if there is none.
func unwrapped(p part.Part) part.Part {
	if w, ok := p.(Unwrapper); ok {
		return w.Unwrap()
	}
	return nil
}

// The abilities, each of which asks the part inside for the same one. That it has it, was asked when the wrapper was put about it; if it is hollow, it panics.

type measuring struct{ about *wrapped }

func (m measuring) Measure(room api.Size) api.Size {
	size := m.about.inner.(part.Measurer).Measure(room)
	if m.about.wrap.Kind != api.WrapPad {
		return size
	}
	pad := m.about.wrap.Number
	return api.Size{W: padded(size.W, pad, room.W), H: padded(size.H, pad, room.H)}
}

// padded is a number with a pad on both sides, within MaxSide and room, if that is any.
func padded(n, pad, room int) int {
	n = min(n, api.MaxSide) // ahead of the sum, that it can't wrap round
	n = min(n+2*pad, api.MaxSide)
	if room > 0 {
		n = min(n, room)
	}
	return n
}

type painting struct{ about *wrapped }

func (p painting) Strokes(r api.Rect, look api.Look) []api.Stroke {
	if p.about.wrap.Kind == api.WrapPad {
		r, _ = geom.Inset(r, p.about.wrap.Number) // where it is an error, nothing is left
	}
	return p.about.inner.(part.Painter).Strokes(r, look)
}

type focusing struct{ about *wrapped }

func (f focusing) Order() int {
	if f.about.wrap.Kind == api.WrapFocus {
		return f.about.wrap.Number
	}
	return f.about.inner.(part.Focuser).Order()
}

type scrolling struct{ about *wrapped }

func (s scrolling) Offset() api.Point {
	return s.about.inner.(part.Scroller).Offset()
}

type accepting struct{ about *wrapped }

func (a accepting) Takes(kind string) bool {
	if a.about.wrap.Kind == api.WrapDrop && kind == a.about.wrap.Text {
		return true
	}
	if inner, ok := a.about.inner.(part.Accepter); ok {
		return inner.Takes(kind)
	}
	return false // a WrapDrop about what can't accept
}

type holding struct{ about *wrapped }

func (h holding) Parts() []part.Part {
	return h.about.inner.(part.Holder).Parts()
}
