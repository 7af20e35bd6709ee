package list

import (
	"casement/api"
	"casement/geom"
)

// maxNode is the greatest number that a stroke's Node may be.
const maxNode = 1 << 20

// draws tells whether a stroke draws something itself, and is no end of a clip.
func draws(s api.Stroke) bool {
	return s.Kind != api.Clip && s.Kind != api.Open
}

// mayBe is what is wrong with a stroke, what its fields may be ahead of whether its Rect may be.
func mayBe(s api.Stroke) api.Errno {
	if s.Kind < api.Fill || s.Kind > api.Open || s.Node < 0 || s.Node > maxNode || len(s.Text) > api.MaxText || !fieldsMayBe(s) {
		return api.ErrArg
	}
	return geom.Check(s.Rect)
}

// fieldsMayBe tells whether the fields that a kind has no use for are zero.
func fieldsMayBe(s api.Stroke) bool {
	switch {
	case s.Kind != api.Write && (s.Text != "" || s.Back != api.Colour{}):
		return false
	case !draws(s) && s.Colour != api.Colour{}:
		return false
	}
	return s.Kind != api.Open || s.Rect == api.Rect{}
}

// elsewhere is a rectangle that may be, moved, or the error where it may not be then. (geom's Moved makes the zero one of all that are empty: these keep their numbers here.)
func elsewhere(r api.Rect, by api.Point) (api.Rect, api.Errno) {
	// A sum that wraps round is as far off the other way: that may not be either.
	r.At.X += by.X
	r.At.Y += by.Y
	if geom.Check(r) != api.OK {
		return api.Rect{}, api.ErrSize
	}
	return r, api.OK
}
