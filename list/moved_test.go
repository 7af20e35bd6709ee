package list

import (
	"math"
	"reflect"
	"slices"
	"testing"

	"casement/api"
)

func moved(t *testing.T, l []api.Stroke, by api.Point, want []api.Stroke, e api.Errno) {
	t.Helper()
	if got, ge := Moved(l, by); ge != e || !slices.Equal(got, want) || e != api.OK && got != nil {
		t.Errorf("Moved(%v, %v): %v, %d; %v, %d", l, by, got, ge, want, e)
	}
}

// P13.6: each stroke but Opens is moved, as far as that may be.
func TestMoved(t *testing.T) {
	moved(t, of(fill(1, 2, 3, 4), frame(0, 0, 1, 1), write(-1, -1, 2, 2, "x")), point(2, -3),
		of(fill(3, -1, 3, 4), frame(2, -3, 1, 1), write(1, -4, 2, 2, "x")), api.OK)
	moved(t, within(rect(1, 1, 5, 5), fill(0, 0, 9, 9)), point(-1, 4), within(rect(0, 5, 5, 5), fill(-1, 4, 9, 9)), api.OK)
	moved(t, of(fill(1, 2, 3, 4)), point(0, 0), of(fill(1, 2, 3, 4)), api.OK)
	for _, one := range []struct {
		by api.Point
		e  api.Errno
	}{
		{point(side-4, side-5), api.OK}, {point(side-3, 0), api.ErrSize}, {point(0, side-4), api.ErrSize},
		{point(-side-1, -side-2), api.OK}, {point(-side-2, 0), api.ErrSize}, {point(0, -side-3), api.ErrSize},
		{point(2*side, 0), api.ErrSize}, {point(0, -2*side), api.ErrSize}, {point(4*side+1, 0), api.ErrSize},
		{point(math.MaxInt, 0), api.ErrSize}, {point(0, math.MaxInt), api.ErrSize}, {point(math.MinInt, 0), api.ErrSize}, {point(0, math.MinInt), api.ErrSize},
		{point(math.MaxInt, math.MinInt), api.ErrSize}, {point(math.MaxInt-1, math.MaxInt), api.ErrSize}, {point(1<<32, 1<<32), api.ErrSize},
	} {
		var want []api.Stroke
		if one.e == api.OK {
			want = of(fill(1+one.by.X, 2+one.by.Y, 3, 3))
		}
		moved(t, of(fill(1, 2, 3, 3)), one.by, want, one.e)
	}
}

// P13.6: sums that would turn over, with each corner, either way.
func TestMovedTurnsOver(t *testing.T) {
	for _, s := range of(fill(-side, -side, 1, 1), fill(side-1, side-1, 1, 1), fill(side, side, 0, 0), fill(-side, side, 0, 0), fill(-side, -side, 2*side, 2*side), clipped(0, 0, 0, 0)) {
		l := of(s)
		if s.Kind == api.Clip {
			l = append(l, open())
		}
		for n := range 3 * side / 100 {
			for _, far := range []int{math.MaxInt - 100*n, math.MinInt + 100*n} {
				for _, by := range []api.Point{point(far, 0), point(0, far), point(far, far), point(far, -1-far)} {
					if got, e := Moved(l, by); e != api.ErrSize || got != nil {
						t.Fatalf("Moved(%v, %v): %v, %d", l, by, got, e)
					}
				}
			}
		}
	}
}

// P13.6: empty rectangles are moved as they are, up to the ends of what may be; so are those of Clips. Opens stay.
func TestMovedEmpty(t *testing.T) {
	moved(t, of(fill(3, 3, 0, 2)), point(2, 0), of(fill(5, 3, 0, 2)), api.OK)
	moved(t, of(fill(0, 0, 0, 0)), point(7, -7), of(fill(7, -7, 0, 0)), api.OK)
	moved(t, of(fill(-side, -side, 0, 0)), point(2*side, 2*side), of(fill(side, side, 0, 0)), api.OK)
	moved(t, of(fill(-side, -side, 0, 0)), point(2*side+1, 0), nil, api.ErrSize)
	moved(t, of(fill(side, side, 0, 0)), point(-2*side, -2*side), of(fill(-side, -side, 0, 0)), api.OK)
	moved(t, of(fill(side, side, 0, 0)), point(0, -2*side-1), nil, api.ErrSize)
	moved(t, of(fill(side, side, 0, 0)), point(1, 0), nil, api.ErrSize)
	moved(t, of(fill(-side, 5, 2*side, 0)), point(1, 0), nil, api.ErrSize)
	moved(t, of(fill(-side, 5, 2*side, 0)), point(0, side-5), of(fill(-side, side, 2*side, 0)), api.OK)
	o := api.Stroke{Kind: api.Open, Node: 3}
	moved(t, of(clipped(0, 0, 0, 0), o), point(1, 1), of(clipped(1, 1, 0, 0), o), api.OK)
	moved(t, of(clipped(0, 0, 0, 0), o), point(side, -side), of(clipped(side, -side, 0, 0), o), api.OK)
	moved(t, of(clipped(0, 0, 0, 0), o), point(side+1, 0), nil, api.ErrSize)
	// whatever by is, where there is nothing to move
	for _, by := range []api.Point{{}, point(math.MaxInt, math.MinInt)} {
		moved(t, nil, by, nil, api.OK)
	}
}

// P13.6: one stroke that may not be then is enough, whichever it is; Check's errors come ahead of it.
func TestMovedErrors(t *testing.T) {
	near, far := fill(0, 0, 1, 1), fill(side-1, 0, 1, 1)
	for _, l := range [][]api.Stroke{of(far), of(near, far), of(far, near), of(near, near, far, near), of(clip(far.Rect), near, open()), of(clip(near.Rect), far, open()), of(clip(near.Rect), open(), far)} {
		moved(t, l, point(1, 0), nil, api.ErrSize)
		if _, e := Moved(l, point(-1, 0)); e != api.OK {
			t.Errorf("Moved(%v, -1): %d", l, e)
		}
	}
	for i, one := range wrong() {
		if got, e := Moved(one.l, point(math.MaxInt, 0)); e != one.e || got != nil {
			t.Errorf("%d: %v, %d", i, got, e)
		}
	}
}

// wrongList is a list that is no drawing list, and why.
type wrongList struct {
	l []api.Stroke
	e api.Errno
}

func wrong() []wrongList {
	f := fill(0, 0, 1, 1)
	return []wrongList{
		{of(api.Stroke{}), api.ErrArg}, {of(f, api.Stroke{Kind: api.Fill, Node: -1}), api.ErrArg}, {of(f, fill(0, 0, -1, 0)), api.ErrRect},
		{of(f, open()), api.ErrClip}, {of(clipped(0, 0, 1, 1), f), api.ErrClip}, {slices.Repeat(of(f), api.MaxStrokes+1), api.ErrMany},
	}
}

// All calls but Same answer Check's error of their lists ahead of all else, from the left.
func TestErrorsInTheirOrder(t *testing.T) {
	bad := rects(rect(0, 0, -1, -1))
	for i, one := range wrong() {
		a, b, e := Flat(one.l)
		if e != one.e || a != nil || b != nil {
			t.Errorf("Flat %d: %d", i, e)
		}
		if r, e := Bound(one.l); e != one.e || r != nil {
			t.Errorf("Bound %d: %d", i, e)
		}
		if l, e := Norm(one.l); e != one.e || l != nil {
			t.Errorf("Norm %d: %d", i, e)
		}
		for _, r := range [][]api.Rect{nil, rects(rect(0, 0, 1, 1)), bad, make([]api.Rect, 1025)} {
			if l, e := Within(one.l, r); e != one.e || l != nil {
				t.Errorf("Within %d: %d", i, e)
			}
		}
		long := slices.Repeat(of(fill(0, 0, 1, 1)), api.MaxStrokes)
		for _, other := range append(wrong(), wrongList{}, wrongList{long, api.OK}) {
			if l, e := Join(one.l, other.l); e != one.e || l != nil {
				t.Errorf("Join %d and another one: %d", i, e)
			}
			if other.e == api.OK {
				if l, e := Join(other.l, one.l); e != one.e || l != nil {
					t.Errorf("Join of another one and %d: %d", i, e)
				}
			}
		}
	}
}

// P13.6: Join of lists without strokes, of just MaxStrokes strokes together, and of one more.
func TestJoin(t *testing.T) {
	f, g := fill(0, 0, 1, 1), write(3, 3, 3, 3, "x")
	for i, one := range []struct {
		a, b []api.Stroke
		e    api.Errno
	}{
		{nil, nil, api.OK}, {of(f), nil, api.OK}, {nil, of(g), api.OK}, {of(f), of(g), api.OK}, {of(g, f), of(f, g), api.OK},
		{within(f.Rect, g), within(g.Rect, f), api.OK},
		{of(clip(f.Rect), g), of(f, open()), api.ErrClip}, // each must be a drawing list itself
		{slices.Repeat(of(f), api.MaxStrokes), nil, api.OK},
		{nil, slices.Repeat(of(f), api.MaxStrokes), api.OK},
		{slices.Repeat(of(f), api.MaxStrokes/2), slices.Repeat(of(g), api.MaxStrokes/2), api.OK},
		{slices.Repeat(of(f), api.MaxStrokes/2), slices.Repeat(of(g), api.MaxStrokes/2+1), api.ErrMany},
		{slices.Repeat(of(f), api.MaxStrokes), of(g), api.ErrMany},
		{of(g), slices.Repeat(of(f), api.MaxStrokes), api.ErrMany},
		{slices.Repeat(of(f), api.MaxStrokes), slices.Repeat(of(f), api.MaxStrokes), api.ErrMany},
	} {
		got, e := Join(one.a, one.b)
		want := slices.Concat(one.a, one.b)
		if one.e != api.OK {
			want = nil
		}
		if e != one.e || !slices.Equal(got, want) || e != api.OK && got != nil {
			t.Errorf("%d: %d strokes, %d; %d, %d", i, len(got), e, len(want), one.e)
		}
	}
}

// numbersOf are all fields of a stroke that have no fields themselves.
func numbersOf(v reflect.Value) []reflect.Value {
	if v.Kind() != reflect.Struct {
		return []reflect.Value{v}
	}
	var all []reflect.Value
	for i := range v.NumField() {
		all = append(all, numbersOf(v.Field(i))...)
	}
	return all
}

func bump(v reflect.Value) {
	switch {
	case v.CanInt():
		v.SetInt(v.Int() + 1)
	case v.CanUint():
		v.SetUint(v.Uint() + 1)
	default:
		v.SetString(v.String() + "x")
	}
}

// P13.6: Same of lists of other lengths, of others by one field, of any lists.
func TestSame(t *testing.T) {
	f, g := fill(0, 0, 4, 4), write(1, 1, 3, 1, "x")
	same := [][]api.Stroke{nil, of(f), of(f, g), of(g, f), of(f, f), within(f.Rect, g), of(open()), of(clip(f.Rect)), of(api.Stroke{Kind: 99, Node: -1, Rect: rect(0, 0, -1, 0)}), make([]api.Stroke, api.MaxStrokes+1), make([]api.Stroke, api.MaxStrokes+2)}
	for i, a := range same {
		for j, b := range same {
			if Same(a, slices.Clone(b)) != (i == j) {
				t.Errorf("Same of %d and %d: %v", i, j, i != j)
			}
		}
	}
	if !Same(nil, []api.Stroke{}) || !Same([]api.Stroke{}, nil) {
		t.Error("no strokes and none")
	}
	l := of(f, g, f)
	count := len(numbersOf(reflect.ValueOf(&l[0]).Elem()))
	if count != 15 {
		t.Errorf("a stroke has %d fields", count)
	}
	for at := range l {
		for field := range count {
			other := slices.Clone(l)
			bump(numbersOf(reflect.ValueOf(&other[at]).Elem())[field])
			if Same(l, other) || Same(other, l) || !Same(other, slices.Clone(other)) {
				t.Errorf("the field %d of %d", field, at)
			}
		}
	}
}
