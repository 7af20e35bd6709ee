// Package geom is layer 1: points, sizes, rectangles. See shared/doc/01-geom.md.
package geom

import (
	"casement/api"
)

// Check tells whether a rectangle may be.
func Check(r api.Rect) api.Errno {
	if !spanMayBe(r.At.X, r.Size.W) || !spanMayBe(r.At.Y, r.Size.H) {
		return api.ErrRect
	}
	return api.OK
}

// spanMayBe tells whether a beginning and a length may be one way of a rectangle.
// The length is held against what is left of the side: a sum could wrap round.
func spanMayBe(at, length int) bool {
	return length >= 0 && at >= -api.MaxSide && length <= api.MaxSide-at
}

// Make is the rectangle of two corners, whichever they are.
func Make(a, b api.Point) (api.Rect, api.Errno) {
	if !cornerMayBe(a) || !cornerMayBe(b) {
		return api.Rect{}, api.ErrArg
	}
	low := api.Point{X: min(a.X, b.X), Y: min(a.Y, b.Y)}
	high := api.Point{X: max(a.X, b.X), Y: max(a.Y, b.Y)}
	return between(low, high), api.OK
}

// cornerMayBe tells whether a point may be a corner: MaxSide itself is no place, but the end of one.
func cornerMayBe(p api.Point) bool {
	return within(p.X, -api.MaxSide, api.MaxSide) && within(p.Y, -api.MaxSide, api.MaxSide)
}

// within tells whether a number is from low to high, both allowed.
func within(n, low, high int) bool {
	return n >= low && n <= high
}

// between is the rectangle from the corner low up to the corner high, which it does not have; the zero one where there is no place between them.
func between(low, high api.Point) api.Rect {
	if high.X <= low.X || high.Y <= low.Y {
		return api.Rect{}
	}
	return api.Rect{At: low, Size: api.Size{W: high.X - low.X, H: high.Y - low.Y}}
}

// end is the corner behind the last place of a rectangle that may be.
func end(r api.Rect) api.Point {
	return api.Point{X: r.At.X + r.Size.W, Y: r.At.Y + r.Size.H}
}

// Empty tells whether it has no place.
func Empty(r api.Rect) bool {
	return Check(r) != api.OK || r.Size.W == 0 || r.Size.H == 0
}

// Area tells how many places it has.
func Area(r api.Rect) int {
	if Empty(r) {
		return 0
	}
	return r.Size.W * r.Size.H
}

// Has tells whether a point is one of its places.
func Has(r api.Rect, p api.Point) bool {
	if Empty(r) {
		return false
	}
	last := end(r)
	return p.X >= r.At.X && p.X < last.X && p.Y >= r.At.Y && p.Y < last.Y
}

// In tells whether each place of a is one of b.
func In(a, b api.Rect) bool {
	return Empty(a) || Meet(a, b) == a
}

// Over tells whether a and b have a place together.
func Over(a, b api.Rect) bool {
	return Meet(a, b) != api.Rect{}
}

// Meet is what both have.
func Meet(a, b api.Rect) api.Rect {
	// Of a rectangle that may not be, the end could wrap round.
	if Empty(a) || Empty(b) {
		return api.Rect{}
	}
	enda, endb := end(a), end(b)
	return between(
		api.Point{X: max(a.At.X, b.At.X), Y: max(a.At.Y, b.At.Y)},
		api.Point{X: min(enda.X, endb.X), Y: min(enda.Y, endb.Y)},
	)
}

// Join is the least one that has both.
func Join(a, b api.Rect) api.Rect {
	switch {
	case Empty(a) && Empty(b):
		return api.Rect{}
	case Empty(a):
		return b
	case Empty(b):
		return a
	}
	enda, endb := end(a), end(b)
	return between(
		api.Point{X: min(a.At.X, b.At.X), Y: min(a.At.Y, b.At.Y)},
		api.Point{X: max(enda.X, endb.X), Y: max(enda.Y, endb.Y)},
	)
}

// Less is what a has and b has not, as at most four pieces.
func Less(a, b api.Rect) ([]api.Rect, api.Errno) {
	if Check(a) != api.OK || Check(b) != api.OK {
		return nil, api.ErrRect
	}
	if Empty(a) {
		return nil, api.OK
	}
	m := Meet(a, b)
	if m == (api.Rect{}) {
		return []api.Rect{a}, api.OK
	}
	var pieces []api.Rect
	for _, piece := range around(a, m) {
		if piece != (api.Rect{}) {
			pieces = append(pieces, piece)
		}
	}
	return pieces, api.OK
}

// around is what a has above, left of, right of and below m, which lies in a; the zero one where there is nothing.
func around(a, m api.Rect) [4]api.Rect {
	enda, endm := end(a), end(m)
	return [4]api.Rect{
		between(a.At, api.Point{X: enda.X, Y: m.At.Y}),
		between(api.Point{X: a.At.X, Y: m.At.Y}, api.Point{X: m.At.X, Y: endm.Y}),
		between(api.Point{X: endm.X, Y: m.At.Y}, api.Point{X: enda.X, Y: endm.Y}),
		between(api.Point{X: a.At.X, Y: endm.Y}, enda),
	}
}

// Inset is it, smaller on all sides; greater, if by is below 0.
func Inset(r api.Rect, by int) (api.Rect, api.Errno) {
	if Check(r) != api.OK {
		return api.Rect{}, api.ErrRect
	}
	if !within(by, -api.MaxSide, api.MaxSide) {
		return api.Rect{}, api.ErrArg
	}
	if Empty(r) {
		return api.Rect{}, api.OK
	}
	last := end(r)
	return sized(between(
		api.Point{X: r.At.X + by, Y: r.At.Y + by},
		api.Point{X: last.X - by, Y: last.Y - by},
	))
}

// sized is a rectangle that a call worked out, or the error where it may not be.
func sized(r api.Rect) (api.Rect, api.Errno) {
	if Check(r) != api.OK {
		return api.Rect{}, api.ErrSize
	}
	return r, api.OK
}

// Moved is it, elsewhere.
func Moved(r api.Rect, by api.Point) (api.Rect, api.Errno) {
	if Check(r) != api.OK {
		return api.Rect{}, api.ErrRect
	}
	if Empty(r) {
		return api.Rect{}, api.OK
	}
	// No two places are farther apart than this; a sum with a greater number could wrap round.
	const far = 2 * api.MaxSide
	if !within(by.X, -far, far) || !within(by.Y, -far, far) {
		return api.Rect{}, api.ErrSize
	}
	r.At.X += by.X
	r.At.Y += by.Y
	return sized(r)
}

// Ways in which a thing stands within the room that it has.
const (
	atBeginning uint8 = 0
	inMiddle    uint8 = 1
	atEnd       uint8 = 2
)

// Align is a size within a rectangle: along each way 0 at the beginning, 1 in the middle, 2 at the end.
func Align(r api.Rect, s api.Size, x, y uint8) (api.Rect, api.Errno) {
	if Check(r) != api.OK {
		return api.Rect{}, api.ErrRect
	}
	if !within(s.W, 0, 2*api.MaxSide) || !within(s.H, 0, 2*api.MaxSide) || x > atEnd || y > atEnd {
		return api.Rect{}, api.ErrArg
	}
	if s.W == 0 || s.H == 0 {
		return api.Rect{}, api.OK
	}
	at := api.Point{
		X: r.At.X + ahead(r.Size.W-s.W, x),
		Y: r.At.Y + ahead(r.Size.H-s.H, y),
	}
	return sized(api.Rect{At: at, Size: s})
}

// ahead is how much of the spare room, which may be below 0, lies ahead of the thing.
func ahead(spare int, way uint8) int {
	switch way {
	case atBeginning:
		return 0
	case inMiddle:
		// A shift rounds down below 0, too, where a division would round up.
		return spare >> 1
	}
	return spare
}
