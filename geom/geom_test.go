package geom

import (
	"math"
	"slices"
	"testing"

	"casement/api"
)

const side = api.MaxSide

var zero api.Rect

func rect(x, y, w, h int) api.Rect {
	return api.Rect{At: api.Point{X: x, Y: y}, Size: api.Size{W: w, H: h}}
}

func point(x, y int) api.Point { return api.Point{X: x, Y: y} }

// wrong: rectangles that may not be, each for one reason.
func wrong() []api.Rect {
	return []api.Rect{
		rect(0, 0, -1, 5), rect(0, 0, 5, -1), rect(0, 0, -1, -1),
		rect(-side-1, 0, 1, 1), rect(0, -side-1, 1, 1),
		rect(-side-1, 0, 0, 0), rect(0, -side-1, 0, 0),
		rect(side+1, 0, 0, 0), rect(0, side+1, 0, 0),
		rect(side, 0, 1, 1), rect(0, side, 1, 1),
		rect(1, 0, side, 1), rect(0, 1, 1, side),
		rect(0, 0, side+1, 1), rect(0, 0, 1, side+1),
		rect(-side, 0, 2*side+1, 1), rect(0, -side, 1, 2*side+1),
		rect(math.MaxInt, 0, 1, 1), rect(0, math.MaxInt, 1, 1),
		rect(math.MinInt, 0, 1, 1), rect(0, math.MinInt, 1, 1),
		rect(0, 0, math.MaxInt, 1), rect(0, 0, 1, math.MaxInt),
		rect(0, 0, math.MinInt, 1), rect(0, 0, 1, math.MinInt),
		rect(math.MaxInt, math.MaxInt, math.MaxInt, math.MaxInt),
		rect(math.MinInt, math.MinInt, math.MinInt, math.MinInt),
		rect(side, side, math.MaxInt, math.MaxInt),
	}
}

// hollow: rectangles that may be and have no place.
func hollow() []api.Rect {
	return []api.Rect{
		zero, rect(3, 3, 0, 5), rect(3, 3, 5, 0), rect(side, 0, 0, 4), rect(0, side, 4, 0),
		rect(side, side, 0, 0), rect(-side, -side, 0, 2*side), rect(-side, -side, 2*side, 0),
	}
}

// solid: rectangles that may be and have places, among them those at the ends of what is allowed.
func solid() []api.Rect {
	return []api.Rect{
		rect(0, 0, 1, 1), rect(0, 0, 4, 4), rect(1, 1, 2, 2), rect(-5, -5, 3, 4), rect(-2, 1, 9, 2),
		rect(-side, -side, 2*side, 2*side), rect(-side, -side, 1, 1), rect(side-1, side-1, 1, 1),
		rect(-side, side-1, 1, 1), rect(side-1, -side, 1, 1), rect(0, 0, side, side), rect(-side, -side, side, side),
		rect(-side, 0, 2*side, 1), rect(0, -side, 1, 2*side),
	}
}

func TestCheck(t *testing.T) {
	for _, r := range wrong() {
		if e := Check(r); e != api.ErrRect {
			t.Errorf("Check(%v) = %v, want ErrRect", r, e)
		}
	}
	for _, r := range slices.Concat(hollow(), solid()) {
		if e := Check(r); e != api.OK {
			t.Errorf("Check(%v) = %v, want OK", r, e)
		}
	}
}

func TestMake(t *testing.T) {
	for _, c := range []struct {
		a, b api.Point
		want api.Rect
		e    api.Errno
	}{
		{point(5, 1), point(2, 4), rect(2, 1, 3, 3), api.OK},
		{point(2, 4), point(5, 1), rect(2, 1, 3, 3), api.OK},
		{point(2, 1), point(5, 4), rect(2, 1, 3, 3), api.OK},
		{point(-1, -2), point(1, 5), rect(-1, -2, 2, 7), api.OK},
		{point(5, 1), point(5, 4), zero, api.OK},
		{point(5, 4), point(1, 4), zero, api.OK},
		{point(7, 7), point(7, 7), zero, api.OK},
		{point(side, side), point(side, side), zero, api.OK},
		{point(-side, side), point(side, -side), rect(-side, -side, 2*side, 2*side), api.OK},
		{point(side, side), point(side-1, side-1), rect(side-1, side-1, 1, 1), api.OK},
		{point(-side-1, 0), point(1, 1), zero, api.ErrArg},
		{point(0, -side-1), point(1, 1), zero, api.ErrArg},
		{point(side+1, 0), point(1, 1), zero, api.ErrArg},
		{point(0, side+1), point(1, 1), zero, api.ErrArg},
		{point(1, 1), point(-side-1, 0), zero, api.ErrArg},
		{point(1, 1), point(0, -side-1), zero, api.ErrArg},
		{point(1, 1), point(side+1, 0), zero, api.ErrArg},
		{point(1, 1), point(0, side+1), zero, api.ErrArg},
		{point(side+1, 1), point(side+1, 2), zero, api.ErrArg},
		{point(math.MinInt, 1), point(math.MaxInt, 2), zero, api.ErrArg},
	} {
		if got, e := Make(c.a, c.b); got != c.want || e != c.e {
			t.Errorf("Make(%v, %v) = %v, %v, want %v, %v", c.a, c.b, got, e, c.want, c.e)
		}
	}
}

func TestEmptyAndArea(t *testing.T) {
	for _, r := range slices.Concat(wrong(), hollow()) {
		if !Empty(r) || Area(r) != 0 {
			t.Errorf("%v: Empty %v, Area %d, want true, 0", r, Empty(r), Area(r))
		}
	}
	for _, r := range solid() {
		if Empty(r) || Area(r) != r.Size.W*r.Size.H {
			t.Errorf("%v: Empty %v, Area %d", r, Empty(r), Area(r))
		}
	}
	if Area(rect(0, 0, 3, 4)) != 12 || Area(rect(-side, -side, 2*side, 2*side)) != 1<<30 {
		t.Error("areas", Area(rect(0, 0, 3, 4)), Area(rect(-side, -side, 2*side, 2*side)))
	}
}

// hasAround holds the corners of a rectangle with places, and the places beside them, against Has.
func hasAround(t *testing.T, r api.Rect) {
	left, top := r.At.X, r.At.Y
	right, bottom := left+r.Size.W-1, top+r.Size.H-1
	for _, p := range []api.Point{point(left, top), point(right, top), point(left, bottom), point(right, bottom)} {
		if !Has(r, p) {
			t.Errorf("Has(%v, %v) = false", r, p)
		}
	}
	for _, p := range []api.Point{
		point(left-1, top), point(left, top-1), point(right+1, top), point(right, top-1),
		point(left-1, bottom), point(left, bottom+1), point(right+1, bottom), point(right, bottom+1),
		point(math.MinInt, top), point(math.MaxInt, top), point(left, math.MinInt), point(left, math.MaxInt),
	} {
		if Has(r, p) {
			t.Errorf("Has(%v, %v) = true", r, p)
		}
	}
}

func TestHas(t *testing.T) {
	if !Has(rect(2, 1, 3, 3), point(4, 3)) || Has(rect(2, 1, 3, 3), point(5, 3)) {
		t.Error("the chapter's examples")
	}
	for _, r := range solid() {
		hasAround(t, r)
	}
	for _, r := range slices.Concat(wrong(), hollow()) {
		for _, p := range []api.Point{{}, r.At, point(-side, -side), point(side-1, 0), point(side, side), point(math.MaxInt, math.MinInt)} {
			if Has(r, p) {
				t.Errorf("Has(%v, %v) = true", r, p)
			}
		}
	}
}

func TestInAndOver(t *testing.T) {
	for _, c := range []struct {
		a, b     api.Rect
		in, over bool
	}{
		{rect(3, 3, 0, 0), rect(0, 0, 1, 1), true, false},
		{rect(0, 0, 2, 2), rect(0, 0, 2, 1), false, true},
		{rect(0, 0, 2, 1), rect(0, 0, 2, 2), true, true},
		{rect(0, 0, 2, 2), rect(0, 0, 2, 2), true, true},
		{rect(0, 0, 2, 2), rect(2, 0, 2, 2), false, false},
		{rect(0, 0, 2, 2), rect(0, 2, 2, 2), false, false},
		{rect(0, 0, 2, 2), rect(2, 2, 2, 2), false, false},
		{rect(0, 0, 2, 2), rect(1, 1, 2, 2), false, true},
		{rect(1, 1, 2, 2), rect(0, 0, 4, 4), true, true},
		{rect(-1, 1, 2, 2), rect(0, 0, 4, 4), false, true},
		{rect(1, -1, 2, 2), rect(0, 0, 4, 4), false, true},
		{rect(3, 1, 2, 2), rect(0, 0, 4, 4), false, true},
		{rect(0, 1, 4, 1), rect(1, 0, 1, 4), false, true},
	} {
		if In(c.a, c.b) != c.in || Over(c.a, c.b) != c.over || Over(c.b, c.a) != c.over {
			t.Errorf("%v, %v: In %v, Over %v", c.a, c.b, In(c.a, c.b), Over(c.a, c.b))
		}
	}
}

// TestWithoutPlaces: all of the five, Meet and Join take any rectangles; those without places have none.
func TestWithoutPlaces(t *testing.T) {
	none := slices.Concat(wrong(), hollow())
	for _, a := range none {
		for _, b := range none {
			if !In(a, b) || Over(a, b) || Meet(a, b) != zero || Join(a, b) != zero {
				t.Errorf("%v, %v: In %v, Over %v, Meet %v, Join %v", a, b, In(a, b), Over(a, b), Meet(a, b), Join(a, b))
			}
		}
		for _, b := range solid() {
			if !In(a, b) || In(b, a) || Over(a, b) || Over(b, a) {
				t.Errorf("%v, %v: In %v, %v, Over %v, %v", a, b, In(a, b), In(b, a), Over(a, b), Over(b, a))
			}
			if Meet(a, b) != zero || Meet(b, a) != zero || Join(a, b) != b || Join(b, a) != b {
				t.Errorf("%v, %v: Meet %v, Join %v, %v", a, b, Meet(a, b), Join(a, b), Join(b, a))
			}
		}
	}
}

func TestMeetAndJoin(t *testing.T) {
	for _, c := range []struct{ a, b, meet, join api.Rect }{
		{rect(0, 0, 4, 4), rect(2, 1, 9, 2), rect(2, 1, 2, 2), rect(0, 0, 11, 4)},
		{rect(0, 0, 1, 1), rect(3, 2, 1, 1), zero, rect(0, 0, 4, 3)},
		{rect(5, 5, 0, 3), rect(1, 1, 2, 2), zero, rect(1, 1, 2, 2)},
		{rect(0, 0, 2, 2), rect(2, 0, 2, 2), zero, rect(0, 0, 4, 2)},
		{rect(0, 0, 2, 2), rect(0, 2, 2, 2), zero, rect(0, 0, 2, 4)},
		{rect(-3, -3, 4, 4), rect(0, 0, 4, 4), rect(0, 0, 1, 1), rect(-3, -3, 7, 7)},
		{rect(-3, -3, 2, 2), rect(-3, -3, 2, 2), rect(-3, -3, 2, 2), rect(-3, -3, 2, 2)},
		{rect(-side, -side, 1, 1), rect(side-1, side-1, 1, 1), zero, rect(-side, -side, 2*side, 2*side)},
		{rect(-side, 0, 2*side, 1), rect(0, -side, 1, 2*side), rect(0, 0, 1, 1), rect(-side, -side, 2*side, 2*side)},
	} {
		if Meet(c.a, c.b) != c.meet || Meet(c.b, c.a) != c.meet {
			t.Errorf("Meet(%v, %v) = %v, %v, want %v", c.a, c.b, Meet(c.a, c.b), Meet(c.b, c.a), c.meet)
		}
		if Join(c.a, c.b) != c.join || Join(c.b, c.a) != c.join {
			t.Errorf("Join(%v, %v) = %v, %v, want %v", c.a, c.b, Join(c.a, c.b), Join(c.b, c.a), c.join)
		}
	}
}

func TestLess(t *testing.T) {
	for _, c := range []struct {
		a, b api.Rect
		want []api.Rect
	}{
		{rect(0, 0, 4, 4), rect(1, 1, 2, 2), []api.Rect{rect(0, 0, 4, 1), rect(0, 1, 1, 2), rect(3, 1, 1, 2), rect(0, 3, 4, 1)}},
		{rect(0, 0, 5, 6), rect(1, 2, 2, 1), []api.Rect{rect(0, 0, 5, 2), rect(0, 2, 1, 1), rect(3, 2, 2, 1), rect(0, 3, 5, 3)}},
		{rect(0, 0, 4, 4), rect(9, 9, 1, 1), []api.Rect{rect(0, 0, 4, 4)}},
		{rect(0, 0, 4, 4), rect(1, 1, 0, 2), []api.Rect{rect(0, 0, 4, 4)}},
		{rect(0, 0, 4, 4), rect(4, 0, 4, 4), []api.Rect{rect(0, 0, 4, 4)}},
		{rect(0, 0, 2, 2), rect(0, 0, 4, 4), nil},
		{rect(0, 0, 2, 2), rect(0, 0, 2, 2), nil},
		{rect(3, 3, 0, 5), rect(0, 0, 4, 4), nil},
		{rect(3, 3, 5, 0), rect(30, 30, 4, 4), nil},
		{rect(3, 3, 0, 5), rect(3, 3, 0, 5), nil},
		{rect(0, 0, 4, 4), rect(-5, -5, 7, 7), []api.Rect{rect(2, 0, 2, 2), rect(0, 2, 4, 2)}},
		{rect(0, 0, 4, 4), rect(2, 2, 9, 9), []api.Rect{rect(0, 0, 4, 2), rect(0, 2, 2, 2)}},
		{rect(0, 0, 4, 4), rect(-5, 1, 99, 1), []api.Rect{rect(0, 0, 4, 1), rect(0, 2, 4, 2)}},
		{rect(0, 0, 4, 4), rect(2, -5, 1, 99), []api.Rect{rect(0, 0, 2, 4), rect(3, 0, 1, 4)}},
		{rect(-side, -side, 2*side, 2*side), rect(0, 0, 1, 1), []api.Rect{rect(-side, -side, 2*side, side), rect(-side, 0, side, 1), rect(1, 0, side-1, 1), rect(-side, 1, 2*side, side-1)}},
	} {
		if got, e := Less(c.a, c.b); e != api.OK || !slices.Equal(got, c.want) {
			t.Errorf("Less(%v, %v) = %v, %v, want %v", c.a, c.b, got, e, c.want)
		}
	}
}

func TestLessRefuses(t *testing.T) {
	for _, bad := range wrong() {
		for _, other := range slices.Concat(wrong(), hollow(), solid()) {
			if got, e := Less(bad, other); e != api.ErrRect || len(got) != 0 {
				t.Errorf("Less(%v, %v) = %v, %v", bad, other, got, e)
			}
			if got, e := Less(other, bad); e != api.ErrRect || len(got) != 0 {
				t.Errorf("Less(%v, %v) = %v, %v", other, bad, got, e)
			}
		}
	}
}

func TestInset(t *testing.T) {
	for _, c := range []struct {
		r    api.Rect
		by   int
		want api.Rect
		e    api.Errno
	}{
		{rect(0, 0, 5, 4), 1, rect(1, 1, 3, 2), api.OK},
		{rect(0, 0, 5, 4), 0, rect(0, 0, 5, 4), api.OK},
		{rect(0, 0, 3, 3), 1, rect(1, 1, 1, 1), api.OK},
		{rect(0, 0, 2, 4), 1, zero, api.OK},
		{rect(0, 0, 4, 2), 1, zero, api.OK},
		{rect(0, 0, 3, 3), 2, zero, api.OK},
		{rect(0, 0, 2, 2), -1, rect(-1, -1, 4, 4), api.OK},
		{rect(3, 3, 0, 2), -1, zero, api.OK},
		{rect(3, 3, 2, 0), -1, zero, api.OK},
		{rect(side, side, 0, 0), -side, zero, api.OK},
		{rect(0, 0, 1, 1), side, zero, api.OK},
		{rect(-side, -side, 2*side, 2*side), side, zero, api.OK},
		{rect(-side, -side, 2*side, 2*side), side - 1, rect(-1, -1, 2, 2), api.OK},
		{rect(-side, -side, 2*side, 2*side), -1, zero, api.ErrSize},
		{rect(0, 0, 1, 1), -side, zero, api.ErrSize},
		{rect(0, 0, 1, 1), 1 - side, rect(1-side, 1-side, 2*side-1, 2*side-1), api.OK},
		{rect(-side+1, -side+1, 2*side-2, 2*side-2), -1, rect(-side, -side, 2*side, 2*side), api.OK},
		{rect(-side, 0, 3, 3), -1, zero, api.ErrSize},
		{rect(0, -side, 3, 3), -1, zero, api.ErrSize},
		{rect(side-3, 0, 3, 3), -1, zero, api.ErrSize},
		{rect(0, side-3, 3, 3), -1, zero, api.ErrSize},
		{rect(0, 0, 1, 1), side + 1, zero, api.ErrArg},
		{rect(0, 0, 1, 1), -side - 1, zero, api.ErrArg},
		{rect(0, 0, 1, 1), math.MaxInt, zero, api.ErrArg},
		{rect(0, 0, 1, 1), math.MinInt, zero, api.ErrArg},
		{rect(3, 3, 0, 2), side + 1, zero, api.ErrArg},
		{rect(0, 0, -1, 1), side + 1, zero, api.ErrRect},
	} {
		if got, e := Inset(c.r, c.by); got != c.want || e != c.e {
			t.Errorf("Inset(%v, %d) = %v, %v, want %v, %v", c.r, c.by, got, e, c.want, c.e)
		}
	}
	for _, r := range wrong() {
		for _, by := range []int{0, 1, -1, math.MinInt} {
			if got, e := Inset(r, by); got != zero || e != api.ErrRect {
				t.Errorf("Inset(%v, %d) = %v, %v", r, by, got, e)
			}
		}
	}
}

func TestMoved(t *testing.T) {
	for _, c := range []struct {
		r    api.Rect
		by   api.Point
		want api.Rect
		e    api.Errno
	}{
		{rect(0, 0, 2, 2), point(3, -1), rect(3, -1, 2, 2), api.OK},
		{rect(0, 0, 2, 2), point(0, 0), rect(0, 0, 2, 2), api.OK},
		{rect(0, 0, 2, 2), point(side+1, 0), zero, api.ErrSize},
		{rect(5, 5, 0, 2), point(side+1, 0), zero, api.OK},
		{rect(5, 5, 2, 0), point(math.MaxInt, math.MinInt), zero, api.OK},
		{rect(0, 0, 2, 2), point(side-2, 0), rect(side-2, 0, 2, 2), api.OK},
		{rect(0, 0, 2, 2), point(side-1, 0), zero, api.ErrSize},
		{rect(0, 0, 2, 2), point(0, side-2), rect(0, side-2, 2, 2), api.OK},
		{rect(0, 0, 2, 2), point(0, side-1), zero, api.ErrSize},
		{rect(0, 0, 2, 2), point(-side, -side), rect(-side, -side, 2, 2), api.OK},
		{rect(0, 0, 2, 2), point(-side-1, 0), zero, api.ErrSize},
		{rect(0, 0, 2, 2), point(0, -side-1), zero, api.ErrSize},
		{rect(-side, -side, 1, 1), point(2*side-1, 2*side-1), rect(side-1, side-1, 1, 1), api.OK},
		{rect(-side, -side, 1, 1), point(2*side, 0), zero, api.ErrSize},
		{rect(-side, -side, 1, 1), point(0, 2*side), zero, api.ErrSize},
		{rect(side-1, side-1, 1, 1), point(1-2*side, 1-2*side), rect(-side, -side, 1, 1), api.OK},
		{rect(side-1, side-1, 1, 1), point(-2*side, 0), zero, api.ErrSize},
		{rect(-side, -side, 1, 1), point(math.MinInt, 0), zero, api.ErrSize},
		{rect(-side, -side, 1, 1), point(0, math.MinInt), zero, api.ErrSize},
		{rect(5, 5, 1, 1), point(math.MaxInt, 0), zero, api.ErrSize},
		{rect(5, 5, 1, 1), point(0, math.MaxInt), zero, api.ErrSize},
		{rect(5, 5, 0, -1), point(math.MaxInt, 0), zero, api.ErrRect},
	} {
		if got, e := Moved(c.r, c.by); got != c.want || e != c.e {
			t.Errorf("Moved(%v, %v) = %v, %v, want %v, %v", c.r, c.by, got, e, c.want, c.e)
		}
	}
	for _, r := range wrong() {
		// A rectangle that may not be is not mended by moving it.
		for _, by := range []api.Point{{}, point(1, 1), point(-1, -1), point(-r.At.X, -r.At.Y)} {
			if got, e := Moved(r, by); got != zero || e != api.ErrRect {
				t.Errorf("Moved(%v, %v) = %v, %v", r, by, got, e)
			}
		}
	}
}

type alignCase struct {
	r    api.Rect
	s    api.Size
	x, y uint8
	want api.Rect
	e    api.Errno
}

func checkAlign(t *testing.T, cases []alignCase) {
	for _, c := range cases {
		if got, e := Align(c.r, c.s, c.x, c.y); got != c.want || e != c.e {
			t.Errorf("Align(%v, %v, %d, %d) = %v, %v, want %v, %v", c.r, c.s, c.x, c.y, got, e, c.want, c.e)
		}
	}
}

func TestAlign(t *testing.T) {
	checkAlign(t, []alignCase{
		{rect(0, 0, 10, 4), api.Size{W: 3, H: 4}, 1, 0, rect(3, 0, 3, 4), api.OK},
		{rect(0, 0, 2, 2), api.Size{W: 5, H: 1}, 1, 2, rect(-2, 1, 5, 1), api.OK},
		{rect(5, 7, 10, 20), api.Size{W: 3, H: 5}, 0, 0, rect(5, 7, 3, 5), api.OK},
		{rect(5, 7, 10, 20), api.Size{W: 3, H: 5}, 1, 1, rect(8, 14, 3, 5), api.OK},
		{rect(5, 7, 10, 20), api.Size{W: 3, H: 5}, 2, 2, rect(12, 22, 3, 5), api.OK},
		{rect(5, 7, 10, 20), api.Size{W: 3, H: 5}, 2, 0, rect(12, 7, 3, 5), api.OK},
		{rect(5, 7, 10, 20), api.Size{W: 3, H: 5}, 0, 2, rect(5, 22, 3, 5), api.OK},
		{rect(-3, -3, 2, 2), api.Size{W: 3, H: 4}, 1, 1, rect(-4, -4, 3, 4), api.OK},
		{rect(-3, -3, 2, 2), api.Size{W: 5, H: 6}, 1, 1, rect(-5, -5, 5, 6), api.OK},
		{rect(-3, -3, 2, 2), api.Size{W: 5, H: 6}, 2, 2, rect(-6, -7, 5, 6), api.OK},
		{rect(-3, -3, 3, 3), api.Size{W: 2, H: 2}, 1, 1, rect(-3, -3, 2, 2), api.OK},
		{rect(4, 4, 0, 0), api.Size{W: 2, H: 3}, 1, 1, rect(3, 2, 2, 3), api.OK},
		{rect(4, 4, 0, 9), api.Size{W: 2, H: 3}, 2, 2, rect(2, 10, 2, 3), api.OK},
		{rect(0, 0, 2, 2), api.Size{W: 0, H: 1}, 2, 2, zero, api.OK},
		{rect(5, 5, 2, 2), api.Size{W: 1, H: 0}, 0, 0, zero, api.OK},
		{rect(side, side, 0, 0), api.Size{W: 0, H: 2 * side}, 0, 0, zero, api.OK},
		{rect(-side, -side, 2*side, 2*side), api.Size{W: 2 * side, H: 2 * side}, 1, 1, rect(-side, -side, 2*side, 2*side), api.OK},
		{rect(0, 0, 0, 0), api.Size{W: 2 * side, H: 2 * side}, 1, 1, rect(-side, -side, 2*side, 2*side), api.OK},
	})
}

func TestAlignRefuses(t *testing.T) {
	checkAlign(t, []alignCase{
		{rect(0, 0, 2, 2), api.Size{W: 1, H: 1}, 3, 0, zero, api.ErrArg},
		{rect(0, 0, 2, 2), api.Size{W: 1, H: 1}, 0, 3, zero, api.ErrArg},
		{rect(0, 0, 2, 2), api.Size{W: 1, H: 1}, 255, 255, zero, api.ErrArg},
		{rect(0, 0, 2, 2), api.Size{W: -1, H: 1}, 0, 0, zero, api.ErrArg},
		{rect(0, 0, 2, 2), api.Size{W: 1, H: -1}, 0, 0, zero, api.ErrArg},
		{rect(0, 0, 2, 2), api.Size{W: 2*side + 1, H: 1}, 0, 0, zero, api.ErrArg},
		{rect(0, 0, 2, 2), api.Size{W: 1, H: 2*side + 1}, 0, 0, zero, api.ErrArg},
		{rect(0, 0, 2, 2), api.Size{W: math.MinInt, H: math.MaxInt}, 1, 1, zero, api.ErrArg},
		// A 0 in the size does not hide a wrong argument.
		{rect(0, 0, 2, 2), api.Size{W: 0, H: -1}, 0, 0, zero, api.ErrArg},
		{rect(0, 0, 2, 2), api.Size{W: 2*side + 1, H: 0}, 0, 0, zero, api.ErrArg},
		{rect(0, 0, 2, 2), api.Size{W: 0, H: 0}, 3, 0, zero, api.ErrArg},
		{rect(0, 0, 2, 2), api.Size{W: 0, H: 0}, 0, 3, zero, api.ErrArg},
		// What is asked for is looked at ahead of where it would come to lie.
		{rect(-side, 0, 2, 2), api.Size{W: 5, H: 1}, 2, 3, zero, api.ErrArg},
		{rect(-side, 0, 2, 2), api.Size{W: 5, H: 1}, 2, 0, zero, api.ErrSize},
		{rect(0, -side, 2, 2), api.Size{W: 1, H: 5}, 0, 1, zero, api.ErrSize},
		{rect(side-2, 0, 2, 2), api.Size{W: 3, H: 1}, 0, 0, zero, api.ErrSize},
		{rect(0, side-2, 2, 2), api.Size{W: 1, H: 3}, 0, 0, zero, api.ErrSize},
		{rect(side, side, 0, 0), api.Size{W: 1, H: 1}, 0, 0, zero, api.ErrSize},
		{rect(1, 0, 0, 0), api.Size{W: 2 * side, H: 1}, 1, 0, zero, api.ErrSize},
		{rect(0, 0, -1, 1), api.Size{W: -1, H: 1}, 3, 3, zero, api.ErrRect},
	})
	for _, r := range wrong() {
		if got, e := Align(r, api.Size{}, 0, 0); got != zero || e != api.ErrRect {
			t.Errorf("Align(%v) = %v, %v", r, got, e)
		}
	}
}

// TestLessMemory: what one answer is made into does not show in another one.
func TestLessMemory(t *testing.T) {
	for _, b := range []api.Rect{rect(1, 1, 2, 2), rect(9, 9, 1, 1), rect(0, 0, 1, 4)} {
		first, _ := Less(rect(0, 0, 4, 4), b)
		second, _ := Less(rect(0, 0, 4, 4), b)
		want := slices.Clone(second)
		whole := first[:cap(first)]
		for i := range whole {
			whole[i] = rect(7, 7, 7, 7)
		}
		if !slices.Equal(second, want) {
			t.Errorf("less %v: two answers share memory: %v", b, second)
		}
		if third, _ := Less(rect(0, 0, 4, 4), b); !slices.Equal(third, want) {
			t.Errorf("less %v: an answer is kept: %v", b, third)
		}
	}
}

// small: all rectangles of a little world about 0, empty ones too, and one that may not be.
func small() []api.Rect {
	list := []api.Rect{rect(0, 0, -1, 3)}
	for x := -2; x <= 1; x++ {
		for y := -1; y <= 1; y++ {
			for w := 0; w <= 3; w++ {
				for h := 0; h <= 3; h++ {
					list = append(list, rect(x, y, w, h))
				}
			}
		}
	}
	return list
}

// shows tells by the words of the document whether a point is a place of a rectangle.
func shows(r api.Rect, x, y int) bool {
	return r.Size.W > 0 && r.Size.H > 0 && x >= r.At.X && x < r.At.X+r.Size.W && y >= r.At.Y && y < r.At.Y+r.Size.H
}

// everyPlace calls what with each point of the little world and its surroundings.
func everyPlace(what func(x, y int)) {
	for x := -4; x <= 6; x++ {
		for y := -4; y <= 6; y++ {
			what(x, y)
		}
	}
}

// TestPlaces: what two rectangles have together, and beside one another, place by place.
func TestPlaces(t *testing.T) {
	for _, a := range small() {
		for _, b := range small() {
			placesOf(t, a, b)
		}
	}
}

func placesOf(t *testing.T, a, b api.Rect) {
	pieces, e := Less(a, b)
	told := e == api.OK
	if told != (Check(a) == api.OK && Check(b) == api.OK) {
		t.Fatalf("Less(%v, %v): %v", a, b, e)
	}
	meet, over, in := Meet(a, b), false, true
	everyPlace(func(x, y int) {
		ina, inb := shows(a, x, y), shows(b, x, y)
		over = over || ina && inb
		in = in && (!ina || inb)
		if Has(a, point(x, y)) != ina || Has(meet, point(x, y)) != (ina && inb) {
			t.Errorf("%v, %v: Has, or Meet %v, at %d %d", a, b, meet, x, y)
		}
		n := 0
		for _, piece := range pieces {
			if shows(piece, x, y) {
				n++
			}
		}
		if told && (n > 1 || (n == 1) != (ina && !inb)) {
			t.Errorf("Less(%v, %v) = %v: %d pieces at %d %d", a, b, pieces, n, x, y)
		}
	})
	if Over(a, b) != over || Over(b, a) != over || Meet(b, a) != meet || In(a, b) != in {
		t.Errorf("%v, %v: Over %v, In %v, Meet back %v", a, b, Over(a, b), In(a, b), Meet(b, a))
	}
	if told && In(a, b) != (len(pieces) == 0) {
		t.Errorf("%v, %v: In %v, Less %v", a, b, In(a, b), pieces)
	}
	area := Area(meet)
	for _, piece := range pieces {
		area += Area(piece)
		if Empty(piece) {
			t.Errorf("Less(%v, %v) has an empty piece: %v", a, b, pieces)
		}
	}
	if told && Area(a) != area {
		t.Errorf("Less(%v, %v): areas %d, %d", a, b, Area(a), area)
	}
	joined(t, a, b)
}

// joined: both are in their Join; with a row or a column less it would not have both.
func joined(t *testing.T, a, b api.Rect) {
	j := Join(a, b)
	if !In(a, j) || !In(b, j) {
		t.Errorf("Join(%v, %v) = %v", a, b, j)
	}
	if Empty(a) && Empty(b) && j != zero {
		t.Errorf("Join(%v, %v) = %v, want the zero one", a, b, j)
	}
	if Empty(j) {
		return
	}
	x, y, w, h := j.At.X, j.At.Y, j.Size.W, j.Size.H
	for _, lesser := range []api.Rect{rect(x+1, y, w-1, h), rect(x, y, w-1, h), rect(x, y+1, w, h-1), rect(x, y, w, h-1)} {
		if In(a, lesser) && In(b, lesser) {
			t.Errorf("Join(%v, %v) = %v, but %v has both", a, b, j, lesser)
		}
	}
}

// TestAreaAtTheEnds: the sum of the areas holds for the greatest rectangles, too.
func TestAreaAtTheEnds(t *testing.T) {
	all := slices.Concat(hollow(), solid())
	for _, a := range all {
		for _, b := range all {
			pieces, e := Less(a, b)
			area := Area(Meet(a, b))
			for _, piece := range pieces {
				area += Area(piece)
			}
			if e != api.OK || area != Area(a) || In(a, b) != (len(pieces) == 0) {
				t.Errorf("Less(%v, %v) = %v, %v", a, b, pieces, e)
			}
			joined(t, a, b)
		}
	}
}

// TestThereAndBack: moved by, and by as much back, is the rectangle.
func TestThereAndBack(t *testing.T) {
	moves := []int{0, 1, -1, 7, -7, side, -side, side - 1, 2*side - 1, 1 - 2*side, 2 * side, -2 * side, math.MaxInt, -math.MaxInt}
	told := 0
	for _, r := range solid() {
		for _, x := range moves {
			for _, y := range moves {
				there, e := Moved(r, point(x, y))
				if e != api.OK {
					continue
				}
				told++
				if back, e := Moved(there, point(-x, -y)); e != api.OK || back != r {
					t.Errorf("%v by %d %d, and back: %v, %v", r, x, y, back, e)
				}
			}
		}
	}
	if told == 0 {
		t.Error("no move was told")
	}
}

// TestAlignOwnSize: a rectangle of its own size lies where it is, whatever the ways.
func TestAlignOwnSize(t *testing.T) {
	for _, r := range solid() {
		for x := range uint8(3) {
			for y := range uint8(3) {
				if got, e := Align(r, r.Size, x, y); e != api.OK || got != r {
					t.Errorf("Align(%v, its size, %d, %d) = %v, %v", r, x, y, got, e)
				}
			}
		}
	}
}
