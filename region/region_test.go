package region

import (
	"math"
	"math/rand"
	"slices"
	"testing"

	"casement/api"
)

const side = api.MaxSide

// rects are told as rows of four numbers: X, Y, W, H.
func rects(n ...int) []api.Rect {
	var l []api.Rect
	for i := 0; i+3 < len(n); i += 4 {
		l = append(l, api.Rect{At: api.Point{X: n[i], Y: n[i+1]}, Size: api.Size{W: n[i+2], H: n[i+3]}})
	}
	return l
}

func point(x, y int) api.Point { return api.Point{X: x, Y: y} }

// dots is n places of their own, from a row on, none of which touches another one.
func dots(n, row int) []api.Rect {
	var l []api.Rect
	for i := range n {
		l = append(l, rects(2*(i%64), row+2*(i/64), 1, 1)...)
	}
	return l
}

// columns is n columns with gaps between them; rows is n such rows.
func columns(n, high int) []api.Rect {
	var l []api.Rect
	for i := range n {
		l = append(l, rects(1+2*i, 0, 1, high)...)
	}
	return l
}

func rows(n, wide int) []api.Rect {
	var l []api.Rect
	for i := range n {
		l = append(l, rects(0, 1+2*i, wide, 1)...)
	}
	return l
}

// bars is c columns and r rows that cross one another and have ends beyond: their form has (c + 1) * (r + 1) - 1 rectangles.
func bars(c, r int) []api.Rect {
	return slices.Concat(columns(c, 2*r+1), rows(r, 2*c+1))
}

// wrongLists: lists that may not be, with what is answered to them.
func wrongLists() []struct {
	l []api.Rect
	e api.Errno
} {
	many := dots(api.MaxRects+1, 0)
	manyWrong := slices.Clone(many)
	manyWrong[0].Size.W = -1
	lastWrong := dots(api.MaxRects, 0)
	lastWrong[len(lastWrong)-1].At.X = side
	return []struct {
		l []api.Rect
		e api.Errno
	}{
		{many, api.ErrMany},
		{manyWrong, api.ErrMany},
		{make([]api.Rect, api.MaxRects+1), api.ErrMany},
		{lastWrong, api.ErrRect},
		{rects(0, 0, -1, 2), api.ErrRect},
		{rects(0, 0, 2, -1), api.ErrRect},
		{rects(0, 0, 1, 1, 0, 0, 0, -1), api.ErrRect},
		{rects(-side-1, 0, 1, 1), api.ErrRect},
		{rects(0, -side-1, 1, 1), api.ErrRect},
		{rects(side, 0, 1, 1), api.ErrRect},
		{rects(0, side, 1, 1), api.ErrRect},
		{rects(side+1, 0, 0, 0), api.ErrRect},
		{rects(math.MaxInt, 0, 1, 1), api.ErrRect},
		{rects(0, 0, math.MaxInt, math.MaxInt), api.ErrRect},
		{rects(math.MinInt, math.MinInt, 1, 1), api.ErrRect},
	}
}

// forms: lists with their forms.
func forms() []struct{ l, want []api.Rect } {
	return []struct{ l, want []api.Rect }{
		{nil, nil},
		{[]api.Rect{}, nil},
		{rects(5, 5, 0, 3), nil},
		{rects(5, 5, 3, 0, 0, 0, 0, 0, side, side, 0, 0), nil},
		{rects(1, 2, 3, 4), rects(1, 2, 3, 4)},
		{rects(0, 0, 2, 2, 1, 1, 2, 2), rects(0, 0, 2, 1, 0, 1, 3, 1, 1, 2, 2, 1)},
		{rects(1, 1, 2, 2, 0, 0, 2, 2), rects(0, 0, 2, 1, 0, 1, 3, 1, 1, 2, 2, 1)},
		// spans that touch, that lie a place apart, one within another
		{rects(0, 0, 2, 2, 2, 0, 1, 2), rects(0, 0, 3, 2)},
		{rects(2, 0, 1, 2, 0, 0, 2, 2), rects(0, 0, 3, 2)},
		{rects(0, 0, 1, 1, 2, 0, 1, 1), rects(0, 0, 1, 1, 2, 0, 1, 1)},
		{rects(0, 0, 9, 1, 2, 0, 1, 1, 7, 0, 4, 1), rects(0, 0, 11, 1)},
		{rects(0, 0, 1, 1, 1, 0, 1, 1, 3, 0, 1, 1, 2, 0, 1, 1), rects(0, 0, 4, 1)},
		// rows that touch, corners alone that do
		{rects(0, 0, 1, 1, 0, 1, 1, 1), rects(0, 0, 1, 2)},
		{rects(0, 1, 1, 1, 0, 0, 1, 1), rects(0, 0, 1, 2)},
		{rects(0, 0, 1, 1, 1, 1, 1, 1), rects(0, 0, 1, 1, 1, 1, 1, 1)},
		// bands that are alike: with an empty row between, with another band between, one upon the other
		{rects(0, 0, 2, 1, 0, 2, 2, 1), rects(0, 0, 2, 1, 0, 2, 2, 1)},
		{rects(0, 0, 2, 5, 4, 1, 1, 1), rects(0, 0, 2, 1, 0, 1, 2, 1, 4, 1, 1, 1, 0, 2, 2, 3)},
		{rects(0, 0, 1, 1, 5, 0, 1, 3, 0, 1, 1, 2), rects(0, 0, 1, 3, 5, 0, 1, 3)},
		{rects(0, 0, 4, 1, 0, 1, 2, 1, 2, 1, 2, 1, 0, 2, 4, 1), rects(0, 0, 4, 3)},
		{rects(0, 0, 2, 1, 0, 1, 3, 1, 0, 2, 2, 1), rects(0, 0, 2, 1, 0, 1, 3, 1, 0, 2, 2, 1)},
		// twice, and empty ones that would cut
		{rects(3, 3, 2, 2, 3, 3, 2, 2), rects(3, 3, 2, 2)},
		{rects(0, 0, 4, 4, 1, 1, 0, 2, 1, 2, 2, 0, 4, 0, 0, 9), rects(0, 0, 4, 4)},
		// the ends of what may be
		{rects(-side, -side, 2*side, 2*side), rects(-side, -side, 2*side, 2*side)},
		{
			rects(side-1, side-1, 1, 1, -side, -side, 1, 1, side-1, -side, 1, 1, -side, side-1, 1, 1),
			rects(-side, -side, 1, 1, side-1, -side, 1, 1, -side, side-1, 1, 1, side-1, side-1, 1, 1),
		},
		{rects(-side, 0, side, 1, 0, 0, side, 1), rects(-side, 0, 2*side, 1)},
		{rects(0, -side, 1, side, 0, 0, 1, side), rects(0, -side, 1, 2*side)},
	}
}

// P2.1
func TestOf(t *testing.T) {
	for _, c := range forms() {
		if f, e := Of(c.l); !slices.Equal(f, c.want) || e != api.OK {
			t.Errorf("Of(%v) = %v, %v, want %v", c.l, f, e, c.want)
		}
	}
	for i, c := range wrongLists() {
		if f, e := Of(c.l); len(f) != 0 || e != c.e {
			t.Errorf("wrong list %d: Of = %v, %v, want %v", i, f, e, c.e)
		}
	}
}

// P2.1
func TestCheck(t *testing.T) {
	for _, c := range forms() {
		if e := Check(c.want); e != api.OK {
			t.Errorf("Check(%v) = %v, want OK", c.want, e)
		}
		want := api.ErrArg
		if slices.Equal(c.l, c.want) {
			want = api.OK
		}
		if e := Check(c.l); e != want {
			t.Errorf("Check(%v) = %v, want %v", c.l, e, want)
		}
	}
	for _, l := range [][]api.Rect{
		rects(2, 0, 1, 1, 0, 0, 1, 1), rects(0, 2, 1, 1, 0, 0, 1, 1), rects(0, 0, 1, 1, 1, 0, 1, 1),
		rects(0, 0, 1, 1, 0, 0, 1, 1), rects(0, 0, 1, 1, 5, 5, 0, 0), rects(0, 0, 1, 3, 2, 1, 1, 1), rects(0, 0, 0, 0),
		bars(500, 500),
	} {
		if e := Check(l); e != api.ErrArg {
			t.Errorf("Check(%v) = %v, want ErrArg", l, e)
		}
	}
	for i, c := range wrongLists() {
		if e := Check(c.l); e != c.e {
			t.Errorf("wrong list %d: Check = %v, want %v", i, e, c.e)
		}
	}
}

// P2.2
func TestJoinMeetLess(t *testing.T) {
	for _, c := range []struct{ a, b, join, meet, less []api.Rect }{
		{nil, nil, nil, nil, nil},
		{rects(0, 0, 1, 1), nil, rects(0, 0, 1, 1), nil, rects(0, 0, 1, 1)},
		{nil, rects(0, 0, 1, 1), rects(0, 0, 1, 1), nil, nil},
		{rects(0, 0, 1, 1), rects(2, 0, 1, 1), rects(0, 0, 1, 1, 2, 0, 1, 1), nil, rects(0, 0, 1, 1)},
		{rects(0, 0, 2, 2), rects(2, 0, 1, 2), rects(0, 0, 3, 2), nil, rects(0, 0, 2, 2)},
		{
			rects(0, 0, 4, 4), rects(2, 2, 4, 4),
			rects(0, 0, 4, 2, 0, 2, 6, 2, 2, 4, 4, 2), rects(2, 2, 2, 2), rects(0, 0, 4, 2, 0, 2, 2, 2),
		},
		{
			rects(0, 0, 3, 3), rects(1, 1, 1, 1),
			rects(0, 0, 3, 3), rects(1, 1, 1, 1), rects(0, 0, 3, 1, 0, 1, 1, 1, 2, 1, 1, 1, 0, 2, 3, 1),
		},
		{rects(1, 1, 1, 1), rects(0, 0, 3, 3), rects(0, 0, 3, 3), rects(1, 1, 1, 1), nil},
		{rects(3, 1, 2, 2), rects(3, 1, 2, 2), rects(3, 1, 2, 2), rects(3, 1, 2, 2), nil},
		// an empty one among them has no say
		{rects(0, 0, 3, 3), rects(1, 1, 0, 9), rects(0, 0, 3, 3), nil, rects(0, 0, 3, 3)},
		// one cut over several spans; several cuts in one span
		{
			rects(0, 0, 2, 1, 3, 0, 2, 1, 6, 0, 2, 1), rects(1, 0, 6, 1),
			rects(0, 0, 8, 1), rects(1, 0, 1, 1, 3, 0, 2, 1, 6, 0, 1, 1), rects(0, 0, 1, 1, 7, 0, 1, 1),
		},
		{
			rects(0, 0, 9, 1), rects(-2, 0, 3, 1, 3, 0, 1, 1, 5, 0, 2, 1, 8, 0, 9, 1),
			rects(-2, 0, 19, 1), rects(0, 0, 1, 1, 3, 0, 1, 1, 5, 0, 2, 1, 8, 0, 1, 1), rects(1, 0, 2, 1, 4, 0, 1, 1, 7, 0, 1, 1),
		},
		// what is left of rows that were unlike is alike, and one band
		{rects(0, 0, 5, 1, 0, 1, 9, 1), rects(5, 0, 9, 9), rects(0, 0, 14, 2, 5, 2, 9, 7), rects(5, 1, 4, 1), rects(0, 0, 5, 2)},
		// an empty row between bands that are alike
		{rects(0, 0, 2, 3), rects(0, 1, 2, 1), rects(0, 0, 2, 3), rects(0, 1, 2, 1), rects(0, 0, 2, 1, 0, 2, 2, 1)},
		// the ends
		{
			rects(-side, -side, 2*side, 2*side), rects(-side, -side, 2*side-1, 2*side, side-1, -side, 1, 2*side-1),
			rects(-side, -side, 2*side, 2*side),
			rects(-side, -side, 2*side, 2*side-1, -side, side-1, 2*side-1, 1), rects(side-1, side-1, 1, 1),
		},
	} {
		for _, d := range []struct {
			name string
			call func(a, b []api.Rect) ([]api.Rect, api.Errno)
			want []api.Rect
		}{{"Join", Join, c.join}, {"Meet", Meet, c.meet}, {"Less", Less, c.less}} {
			if f, e := d.call(c.a, c.b); !slices.Equal(f, d.want) || e != api.OK {
				t.Errorf("%s(%v, %v) = %v, %v, want %v", d.name, c.a, c.b, f, e, d.want)
			}
		}
	}
}

// refusesTwo holds a call of two lists against wrong ones: the left list is asked first, and each its length first.
func refusesTwo(t *testing.T, name string, call func(a, b []api.Rect) (bool, api.Errno)) {
	t.Helper()
	well := rects(0, 0, 1, 1)
	for i, c := range wrongLists() {
		if zero, e := call(c.l, well); !zero || e != c.e {
			t.Errorf("%s, wrong list %d on the left: %v, want %v", name, i, e, c.e)
		}
		if zero, e := call(well, c.l); !zero || e != c.e {
			t.Errorf("%s, wrong list %d on the right: %v, want %v", name, i, e, c.e)
		}
		for j, d := range wrongLists() {
			if zero, e := call(c.l, d.l); !zero || e != c.e {
				t.Errorf("%s, wrong lists %d and %d: %v, want %v", name, i, j, e, c.e)
			}
		}
	}
}

// P2.2, P2.5
func TestTwoRefuse(t *testing.T) {
	for name, call := range map[string]func(a, b []api.Rect) ([]api.Rect, api.Errno){"Join": Join, "Meet": Meet, "Less": Less} {
		refusesTwo(t, name, func(a, b []api.Rect) (bool, api.Errno) {
			l, e := call(a, b)
			return len(l) == 0, e
		})
	}
	refusesTwo(t, "Same", func(a, b []api.Rect) (bool, api.Errno) {
		is, e := Same(a, b)
		return !is, e
	})
}

// P2.3
func TestAreaHasBound(t *testing.T) {
	for _, c := range []struct {
		l     []api.Rect
		area  int
		bound api.Rect
	}{
		{nil, 0, api.Rect{}},
		{rects(5, 5, 0, 3), 0, api.Rect{}},
		{rects(7, 7, 2, 0, 3, 3, 0, 0), 0, api.Rect{}},
		{rects(0, 0, 2, 2, 1, 1, 2, 2), 7, rects(0, 0, 3, 3)[0]},
		{rects(0, 0, 1, 1, 4, 5, 2, 1), 3, rects(0, 0, 6, 6)[0]},
		{rects(4, 5, 2, 1, 0, 0, 1, 1), 3, rects(0, 0, 6, 6)[0]},
		{rects(-3, 4, 1, 1, -9, 8, 2, 1), 3, rects(-9, 4, 7, 5)[0]},
		{rects(3, 3, 2, 2, 3, 3, 2, 2), 4, rects(3, 3, 2, 2)[0]},
		{rects(3, 3, 2, 2, 0, 0, 0, 0, -9, 9, 0, 5), 4, rects(3, 3, 2, 2)[0]},
		{rects(-side, -side, 2*side, 2*side), 1 << 30, rects(-side, -side, 2*side, 2*side)[0]},
		{rects(-side, side-1, 1, 1, side-1, -side, 1, 1), 2, rects(-side, -side, 2*side, 2*side)[0]},
	} {
		if n, e := Area(c.l); n != c.area || e != api.OK {
			t.Errorf("Area(%v) = %v, %v, want %v", c.l, n, e, c.area)
		}
		if r, e := Bound(c.l); r != c.bound || e != api.OK {
			t.Errorf("Bound(%v) = %v, %v, want %v", c.l, r, e, c.bound)
		}
	}
	for i, c := range wrongLists() {
		if n, e := Area(c.l); n != 0 || e != c.e {
			t.Errorf("wrong list %d: Area = %v, %v, want %v", i, n, e, c.e)
		}
		if r, e := Bound(c.l); r != (api.Rect{}) || e != c.e {
			t.Errorf("wrong list %d: Bound = %v, %v, want %v", i, r, e, c.e)
		}
	}
}

// P2.3
func TestHas(t *testing.T) {
	two := rects(0, 0, 2, 2, 1, 1, 2, 2)
	ends := rects(-side, -side, 1, 1, side-1, side-1, 1, 1, 3, 3, 0, 4)
	for _, c := range []struct {
		l    []api.Rect
		p    api.Point
		want bool
	}{
		{two, point(0, 0), true}, {two, point(1, 1), true}, {two, point(2, 2), true},
		{two, point(2, 0), false}, {two, point(0, 2), false}, {two, point(3, 2), false}, {two, point(2, 3), false}, {two, point(-1, 0), false},
		{nil, point(0, 0), false},
		{ends, point(-side, -side), true}, {ends, point(side-1, side-1), true}, {ends, point(side, side), false}, {ends, point(3, 4), false},
		{ends, point(-side-1, -side), false}, {ends, point(math.MaxInt, math.MinInt), false}, {ends, point(math.MinInt, math.MaxInt), false},
	} {
		if is, e := Has(c.l, c.p); is != c.want || e != api.OK {
			t.Errorf("Has(%v, %v) = %v, %v, want %v", c.l, c.p, is, e, c.want)
		}
	}
	for i, c := range wrongLists() {
		if is, e := Has(c.l, point(0, 0)); is || e != c.e {
			t.Errorf("wrong list %d: Has = %v, %v, want %v", i, is, e, c.e)
		}
	}
}

// P2.4
func TestMoved(t *testing.T) {
	whole := rects(-side, -side, 2*side, 2*side)
	for _, c := range []struct {
		l    []api.Rect
		by   api.Point
		want []api.Rect
		e    api.Errno
	}{
		{rects(0, 0, 2, 2), point(3, -1), rects(3, -1, 2, 2), api.OK},
		{rects(0, 0, 2, 2, 1, 1, 2, 2), point(-5, 7), rects(-5, 7, 2, 1, -5, 8, 3, 1, -4, 9, 2, 1), api.OK},
		{rects(0, 0, 1, 1, 1, 0, 1, 1), point(0, 0), rects(0, 0, 2, 1), api.OK},
		{rects(0, 0, 1, 1), point(side-1, -side), rects(side-1, -side, 1, 1), api.OK},
		{rects(-side, -side, 1, 1), point(2*side-1, 2*side-1), rects(side-1, side-1, 1, 1), api.OK},
		{rects(0, 0, 1, 1), point(side, 0), nil, api.ErrRect},
		{rects(0, 0, 1, 1), point(0, side), nil, api.ErrRect},
		{rects(0, 0, 1, 1), point(-side-1, 0), nil, api.ErrRect},
		{rects(0, 0, 1, 1), point(0, -side-1), nil, api.ErrRect},
		{whole, point(0, 0), whole, api.OK},
		{whole, point(1, 0), nil, api.ErrRect},
		{whole, point(0, -1), nil, api.ErrRect},
		{rects(0, 0, 1, 1, 0, side-1, 1, 1), point(0, 1), nil, api.ErrRect},
		// empty ones move with nothing, so that they can't lead out of what may be
		{rects(0, 0, 1, 1, side, 0, 0, 5, -side, side, 9, 0), point(3, 4), rects(3, 4, 1, 1), api.OK},
		{rects(0, 0, 0, 1), point(4*side, -4*side), nil, api.OK},
		// the greatest steps
		{nil, point(4*side, 4*side), nil, api.OK},
		{nil, point(-4*side, -4*side), nil, api.OK},
		{rects(0, 0, 1, 1), point(4*side, 0), nil, api.ErrRect},
		{rects(0, 0, 1, 1), point(0, -4*side), nil, api.ErrRect},
		{nil, point(4*side+1, 0), nil, api.ErrArg},
		{nil, point(0, 4*side+1), nil, api.ErrArg},
		{nil, point(-4*side-1, 0), nil, api.ErrArg},
		{nil, point(0, -4*side-1), nil, api.ErrArg},
		{rects(0, 0, 1, 1), point(4*side+1, 0), nil, api.ErrArg},
		{rects(0, 0, 1, 1), point(math.MinInt, 0), nil, api.ErrArg},
		{rects(0, 0, 1, 1), point(0, math.MaxInt), nil, api.ErrArg},
	} {
		if l, e := Moved(c.l, c.by); !slices.Equal(l, c.want) || e != c.e {
			t.Errorf("Moved(%v, %v) = %v, %v, want %v, %v", c.l, c.by, l, e, c.want, c.e)
		}
	}
	for i, c := range wrongLists() {
		for _, by := range []api.Point{{}, point(4*side+1, 0)} {
			if l, e := Moved(c.l, by); len(l) != 0 || e != c.e {
				t.Errorf("wrong list %d: Moved = %v, %v, want %v", i, l, e, c.e)
			}
		}
	}
}

// P2.5
func TestSame(t *testing.T) {
	for _, c := range []struct {
		a, b []api.Rect
		want bool
	}{
		{nil, nil, true},
		{nil, rects(4, 4, 0, 3), true},
		{rects(0, 0, 2, 1), rects(0, 0, 1, 1, 1, 0, 1, 1), true},
		{rects(0, 0, 2, 2), rects(0, 0, 2, 1, 0, 1, 2, 1, 1, 0, 1, 2), true},
		{rects(0, 0, 1, 1), nil, false},
		{nil, rects(0, 0, 1, 1), false},
		{rects(0, 0, 1, 1), rects(1, 0, 1, 1), false},
		{rects(0, 0, 2, 2), rects(0, 0, 2, 1), false},
		{rects(0, 0, 1, 1, 2, 0, 1, 1), rects(0, 0, 1, 1, 3, 0, 1, 1), false},
		{rects(0, 0, 2, 2), rects(0, 0, 1, 4), false},
		{bars(500, 500), slices.Concat(bars(500, 500), rects(1, 1, 1, 1)), true},
		{bars(500, 500), slices.Concat(bars(500, 500), rects(2, 2, 1, 1)), false},
	} {
		if is, e := Same(c.a, c.b); is != c.want || e != api.OK {
			t.Errorf("Same(%v, %v) = %v, %v, want %v", c.a, c.b, is, e, c.want)
		}
	}
}

// Forms of just MaxRects rectangles are told, those of one more are not; calls that tell no form do not mind.
func TestFormsOfMany(t *testing.T) {
	const most = api.MaxRects
	row := rects(0, 0, 2*most+1, 1)
	var holes []api.Rect
	for i := range most {
		holes = append(holes, rects(1+2*i, 0, 1, 1)...)
	}
	for i, c := range []struct {
		tell func() ([]api.Rect, api.Errno)
		n    int
	}{
		{func() ([]api.Rect, api.Errno) { return Of(dots(most, 0)) }, most},
		{func() ([]api.Rect, api.Errno) { return Of(bars(24, 40)) }, most},
		{func() ([]api.Rect, api.Errno) { return Of(bars(26, 37)) }, 0},
		{func() ([]api.Rect, api.Errno) { return Of(bars(500, 500)) }, 0},
		{func() ([]api.Rect, api.Errno) { return Join(dots(most-1, 0), rects(-9, -9, 1, 1)) }, most},
		{func() ([]api.Rect, api.Errno) { return Join(dots(most, 0), rects(-9, -9, 1, 1)) }, 0},
		{func() ([]api.Rect, api.Errno) { return Join(dots(most, 0), dots(most, 0)) }, most},
		{func() ([]api.Rect, api.Errno) { return Join(dots(most, 0), dots(most, 99)) }, 0},
		{func() ([]api.Rect, api.Errno) { return Less(row, holes[1:]) }, most},
		{func() ([]api.Rect, api.Errno) { return Less(row, holes) }, 0},
		{func() ([]api.Rect, api.Errno) { return Meet(columns(32, 99), rows(32, 99)) }, most},
		{func() ([]api.Rect, api.Errno) { return Meet(columns(41, 99), rows(25, 99)) }, 0},
		{func() ([]api.Rect, api.Errno) { return Moved(dots(most, 0), point(5, 5)) }, most},
		{func() ([]api.Rect, api.Errno) { return Moved(bars(26, 37), point(5, 5)) }, 0},
		// its length is asked ahead of its rectangles
		{func() ([]api.Rect, api.Errno) { return Moved(bars(26, 37), point(side, 0)) }, 0},
	} {
		want := api.OK
		if c.n == 0 {
			want = api.ErrMany
		}
		if l, e := c.tell(); len(l) != c.n || e != want {
			t.Errorf("case %d: %d rectangles, %v, want %d, %v", i, len(l), e, c.n, want)
		}
	}
	beyond := bars(26, 37)
	n, e := Area(beyond)
	b, f := Bound(beyond)
	has, g := Has(beyond, point(1, 0))
	if n != 53*75-27*38 || b != rects(0, 0, 53, 75)[0] || !has || e != api.OK || f != api.OK || g != api.OK {
		t.Error(n, e, b, f, has, g)
	}
}

// guarded is a list with spare room behind it, and all of that as it was.
func guarded(l []api.Rect) (handed, all, was []api.Rect) {
	all = append(slices.Clone(l), rects(77, 77, 7, 7, 78, 78, 8, 8, 79, 79, 9, 9)...)
	return all[:len(l)], all, slices.Clone(all)
}

// P2.6
func TestMemory(t *testing.T) {
	a, allOfA, wasA := guarded(rects(3, 0, 2, 2, 0, 0, 2, 2, 5, 5, 0, 0, 1, 1, 2, 2))
	b, allOfB, wasB := guarded(rects(1, 3, 5, 1, 1, 0, 1, 9))
	calls := []func() []api.Rect{
		func() []api.Rect { l, _ := Of(a); return l },
		func() []api.Rect { l, _ := Of(rects(0, 0, 1, 1)); return l },
		func() []api.Rect { l, _ := Join(a, b); return l },
		func() []api.Rect { l, _ := Join(a, nil); return l },
		func() []api.Rect { l, _ := Meet(a, b); return l },
		func() []api.Rect { l, _ := Less(a, b); return l },
		func() []api.Rect { l, _ := Less(a, nil); return l },
		func() []api.Rect { l, _ := Moved(a, point(1, 1)); return l },
		func() []api.Rect { l, _ := Moved(a, point(0, 0)); return l },
	}
	for i, call := range calls {
		first := call()
		kept := slices.Clone(first)
		if len(first) == 0 {
			t.Errorf("call %d answers nothing", i)
		}
		second := call()
		spoil := second[:cap(second)]
		for j := range spoil {
			spoil[j] = rects(9, 9, 9, 9)[0]
		}
		if !slices.Equal(first, kept) || !slices.Equal(call(), kept) {
			t.Errorf("call %d: what it answers is not new memory", i)
		}
	}
	Check(a)
	Area(a)
	Has(a, point(1, 1))
	Bound(a)
	Same(a, b)
	if !slices.Equal(allOfA, wasA) || !slices.Equal(allOfB, wasB) {
		t.Error("a list that was handed in has changed", allOfA, allOfB)
	}
}

// A board begins at -edge, both ways.
const edge, wide = 3, 13

// board is some places, each by itself, of a small piece of the plane.
type board [wide][wide]bool

func boardOf(l []api.Rect) board {
	var b board
	for _, r := range l {
		for y := range r.Size.H {
			for x := range r.Size.W {
				b[r.At.Y+y+edge][r.At.X+x+edge] = true
			}
		}
	}
	return b
}

// each is a board made of two, place by place.
func (b board) each(o board, wanted func(a, b bool) bool) board {
	var to board
	for y := range b {
		for x := range b[y] {
			to[y][x] = wanted(b[y][x], o[y][x])
		}
	}
	return to
}

// formOf is the form by the words of the document: rows, their runs, and as many rows below as are alike.
func (b board) formOf() []api.Rect {
	var l []api.Rect
	for y := 0; y < wide; {
		high := 1
		for y+high < wide && b[y+high] == b[y] {
			high++
		}
		for x := 0; x < wide; x++ {
			w := 0
			for x+w < wide && b[y][x+w] {
				w++
			}
			if w > 0 {
				l = append(l, rects(x-edge, y-edge, w, high)...)
			}
			x += w
		}
		y += high
	}
	return l
}

func (b board) count() int {
	n := 0
	for _, row := range b {
		for _, is := range row {
			if is {
				n++
			}
		}
	}
	return n
}

// anyList is some rectangles of the board, empty ones and such that stand twice among them.
func anyList(r *rand.Rand) []api.Rect {
	var l []api.Rect
	for range r.Intn(7) {
		x, y := r.Intn(wide+1), r.Intn(wide+1)
		l = append(l, rects(x-edge, y-edge, r.Intn(min(7, wide-x+1)), r.Intn(min(7, wide-y+1)))...)
		if r.Intn(5) == 0 {
			l = append(l, l[r.Intn(len(l))])
		}
	}
	return l
}

func or(a, b bool) bool   { return a || b }
func and(a, b bool) bool  { return a && b }
func less(a, b bool) bool { return a && !b }

// must is an answer that has to come without an error.
func must[A any](t *testing.T) func(A, api.Errno) A {
	return func(a A, e api.Errno) A {
		t.Helper()
		if e != api.OK {
			t.Fatal(e)
		}
		return a
	}
}

// All calls, held against boards on which each place stands by itself: P2.1 to P2.5.
func TestBoards(t *testing.T) {
	r := rand.New(rand.NewSource(2))
	list, number, truth, rect := must[[]api.Rect](t), must[int](t), must[bool](t), must[api.Rect](t)
	for range 4000 {
		a, b := anyList(r), anyList(r)
		p, q := boardOf(a), boardOf(b)
		for i, c := range []struct {
			got  []api.Rect
			want board
		}{
			{list(Of(a)), p},
			{list(Join(a, b)), p.each(q, or)},
			{list(Meet(a, b)), p.each(q, and)},
			{list(Less(a, b)), p.each(q, less)},
		} {
			if want := c.want.formOf(); !slices.Equal(c.got, want) {
				t.Fatalf("call %d of %v and %v = %v, want %v", i, a, b, c.got, want)
			}
		}
		if n := number(Area(a)); n != p.count() {
			t.Fatalf("Area(%v) = %d, want %d", a, n, p.count())
		}
		if is := truth(Same(a, b)); is != (p == q) {
			t.Fatalf("Same(%v, %v) = %v", a, b, is)
		}
		if is := Check(a) == api.OK; is != slices.Equal(a, p.formOf()) {
			t.Fatalf("Check(%v) = %v", a, Check(a))
		}
		bounds(t, p, rect(Bound(a)))
		for y := range p {
			for x := range p[y] {
				if is := truth(Has(a, point(x-edge, y-edge))); is != p[y][x] {
					t.Fatalf("Has(%v, %d, %d) = %v", a, x-edge, y-edge, is)
				}
			}
		}
	}
}

// bounds holds a bound against a board: it has all places, and one in its first and in its last row and column (P2.8).
func bounds(t *testing.T, b board, r api.Rect) {
	t.Helper()
	var top, bottom, left, right bool
	for y := range b {
		for x, is := range b[y] {
			if !is {
				continue
			}
			at := point(x-edge-r.At.X, y-edge-r.At.Y)
			if at.X < 0 || at.Y < 0 || at.X >= r.Size.W || at.Y >= r.Size.H {
				t.Fatalf("bound %v has not %d, %d", r, x-edge, y-edge)
			}
			top, bottom = top || at.Y == 0, bottom || at.Y == r.Size.H-1
			left, right = left || at.X == 0, right || at.X == r.Size.W-1
		}
	}
	if all := top && bottom && left && right; all != (r != api.Rect{}) {
		t.Fatalf("bound %v is not the least", r)
	}
}

// P2.7
func TestLaws(t *testing.T) {
	r := rand.New(rand.NewSource(7))
	list, number, truth := must[[]api.Rect](t), must[int](t), must[bool](t)
	for range 3000 {
		a, b, c := anyList(r), anyList(r), anyList(r)
		f := list(Of(a))
		mixed := slices.Concat(a, a[:len(a)/2])
		r.Shuffle(len(mixed), func(i, j int) { mixed[i], mixed[j] = mixed[j], mixed[i] })
		join, meet, rest := list(Join(a, b)), list(Meet(a, b)), list(Less(a, b))
		for i, two := range [][2][]api.Rect{
			{list(Of(f)), f},
			{list(Of(mixed)), f},
			{list(Join(b, a)), join},
			{list(Meet(b, a)), meet},
			{list(Join(join, c)), list(Join(a, list(Join(b, c))))},
			{list(Join(meet, rest)), f},
			{list(Meet(rest, b)), nil},
			{list(Join(a, a)), f},
			{list(Less(a, a)), nil},
		} {
			if !slices.Equal(two[0], two[1]) {
				t.Fatalf("law %d of %v, %v, %v: %v and %v", i, a, b, c, two[0], two[1])
			}
		}
		if number(Area(join))+number(Area(meet)) != number(Area(a))+number(Area(b)) {
			t.Fatalf("areas of %v, %v", a, b)
		}
		if truth(Same(a, b)) != slices.Equal(f, list(Of(b))) || !truth(Same(a, mixed)) || Check(f) != api.OK {
			t.Fatalf("Same or Check of %v, %v", a, b)
		}
	}
}

// P2.8
func TestPlacesAndBack(t *testing.T) {
	r := rand.New(rand.NewSource(8))
	list, truth := must[[]api.Rect](t), must[bool](t)
	for range 600 {
		a, b := anyList(r), anyList(r)
		join, meet, rest := list(Join(a, b)), list(Meet(a, b)), list(Less(a, b))
		for i := range wide * wide {
			p := point(i%wide-edge, i/wide-edge)
			one, two := truth(Has(a, p)), truth(Has(b, p))
			if truth(Has(join, p)) != (one || two) || truth(Has(meet, p)) != (one && two) || truth(Has(rest, p)) != (one && !two) {
				t.Fatalf("Has of %v, %v at %v", a, b, p)
			}
		}
		by := point(r.Intn(2*side)-side/2, r.Intn(2*side)-side/2)
		there, e := Moved(a, by)
		if e != api.OK {
			continue
		}
		if back := list(Moved(there, point(-by.X, -by.Y))); !slices.Equal(back, list(Of(a))) {
			t.Fatalf("Moved(%v, %v) and back = %v", a, by, back)
		}
	}
}
