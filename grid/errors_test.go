package grid

import (
	"math"
	"slices"
	"testing"

	"casement/api"
)

// asked is an argument, and what is wrong with it.
type asked[T any] struct {
	value T
	e     api.Errno
}

// lists are lists of numbers that may be up to most, and such as may not.
func lists(most int) []asked[[]int] {
	return []asked[[]int]{
		{nil, api.OK},
		{ints(), api.OK},
		{ints(0), api.OK},
		{ints(1), api.OK},
		{ints(most), api.OK},
		{ints(0, most, 1), api.OK},
		{ints(-1), api.ErrArg},
		{ints(most + 1), api.ErrArg},
		{ints(math.MinInt), api.ErrArg},
		{ints(math.MaxInt), api.ErrArg},
		// any of them
		{ints(-1, 0, 1), api.ErrArg},
		{ints(0, most+1, 1), api.ErrArg},
		{ints(0, 1, -1), api.ErrArg},
		// how many, ahead of what each one is
		{repeated(1, things), api.OK},
		{append(repeated(1, things-1), -1), api.ErrArg},
		{repeated(1, things+1), api.ErrMany},
		{repeated(-1, things+1), api.ErrMany},
	}
}

// numbers are numbers that may be up to most, and such as may not.
func numbers(most int) []asked[int] {
	return []asked[int]{
		{-1, api.ErrArg},
		{0, api.OK},
		{1, api.OK},
		{most, api.OK},
		{most + 1, api.ErrArg},
		{math.MinInt, api.ErrArg},
		{math.MaxInt, api.ErrArg},
	}
}

func rectangles() []asked[api.Rect] {
	return []asked[api.Rect]{
		{rect(0, 0, 0, 0), api.OK},
		{rect(-side, -side, 2*side, 2*side), api.OK},
		{rect(side, side, 0, 0), api.OK},
		{rect(0, 0, -1, 0), api.ErrRect},
		{rect(0, 0, 0, -1), api.ErrRect},
		{rect(-side-1, 0, 1, 1), api.ErrRect},
		{rect(0, side, 0, 1), api.ErrRect},
		{rect(math.MaxInt, 0, math.MaxInt, 1), api.ErrRect},
	}
}

// firstOf is the first error, or that of lists that have not as many elements.
func firstOf(a, b []int, l ...api.Errno) api.Errno {
	for _, e := range l {
		if e != api.OK {
			return e
		}
	}
	if len(a) != len(b) {
		return api.ErrGrid
	}
	return api.OK
}

// sized are sizes of these numbers as W, H or both.
func sized(l []int, w, h int) []api.Size {
	var all []api.Size
	for _, n := range l {
		s := api.Size{W: 1, H: 1}
		if w > 0 {
			s.W = n
		}
		if h > 0 {
			s.H = n
		}
		all = append(all, s)
	}
	return all
}

// P11.1 to P11.5: each argument that may not be, together with each other one: the errors from the left, ErrGrid last, nothing beside them.
func TestErrorsInTheirOrder(t *testing.T) {
	for i, spans := range lists(64) {
		for _, columns := range numbers(64) {
			got, e := Cells(spans.value, columns.value)
			want := firstOf(nil, nil, spans.e, columns.e)
			if e != want || e != api.OK && got != nil || e == api.OK && len(got) != len(spans.value) {
				t.Fatalf("Cells of the list %d, %d: %d, %d", i, columns.value, len(got), e)
			}
			for j, least := range lists(side) {
				got, e := Heights(spans.value, least.value, columns.value)
				want := firstOf(spans.value, least.value, spans.e, least.e, columns.e)
				if e != want || e != api.OK && got != nil || e == api.OK && (len(got) > 0) != (len(spans.value) > 0) {
					t.Fatalf("Heights of the lists %d, %d, %d: %d, %d", i, j, columns.value, len(got), e)
				}
				for _, gap := range numbers(side) {
					want := firstOf(spans.value, least.value, spans.e, least.e, columns.e, gap.e)
					got, e := Widths(spans.value, least.value, columns.value, gap.value)
					if e != want || e != api.OK && got != nil || e == api.OK && len(got) != max(columns.value, 1) {
						t.Fatalf("Widths of the lists %d, %d, %d, %d: %d, %d", i, j, columns.value, gap.value, len(got), e)
					}
					refused(t, spans, least, columns, gap)
				}
			}
		}
	}
}

// refused asks Need and Rects for the first error, and for what the models answer where there is none.
func refused(t *testing.T, spans, least asked[[]int], columns, gap asked[int]) {
	t.Helper()
	for _, way := range []api.Size{{W: 1}, {H: 1}, {W: 1, H: 1}} {
		l := sized(least.value, way.W, way.H)
		want := firstOf(spans.value, least.value, spans.e, least.e, columns.e, gap.e)
		if want != api.OK {
			if got, e := Need(spans.value, l, columns.value, gap.value); e != want || got != (api.Size{}) {
				t.Fatalf("Need of %d spans and %d sizes, %d, %d: %v, %d; %d", len(spans.value), len(l), columns.value, gap.value, got, e, want)
			}
		}
		for _, r := range rectangles() {
			want := firstOf(spans.value, least.value, spans.e, least.e, columns.e, gap.e, r.e)
			if want == api.OK {
				if len(l) < things {
					holds(t, spans.value, l, columns.value, gap.value, r.value)
				}
				continue
			}
			if got, e := Rects(spans.value, l, columns.value, gap.value, r.value); e != want || got != nil {
				t.Fatalf("Rects of %d spans and %d sizes, %d, %d, %v: %d, %d; %d", len(spans.value), len(l), columns.value, gap.value, r.value, len(got), e, want)
			}
		}
	}
}

// ErrGrid: fewer and more than there are spans, none at all, by one of many.
func TestListsThatAreNotAlike(t *testing.T) {
	for _, x := range [][2]int{{0, 1}, {1, 0}, {2, 1}, {1, 2}, {3, 5}, {things, things - 1}, {things - 1, things}, {0, things}, {things, 0}} {
		spans, least := repeated(1, x[0]), repeated(1, x[1])
		l := sized(least, 1, 1)
		widths, e1 := Widths(spans, least, 3, 1)
		heights, e2 := Heights(spans, least, 3)
		need, e3 := Need(spans, l, 3, 1)
		rects, e4 := Rects(spans, l, 3, 1, rect(0, 0, 9, 9))
		if got := []api.Errno{e1, e2, e3, e4}; !slices.Equal(got, repeated(api.ErrGrid, 4)) {
			t.Errorf("%d spans, %d others: %d", x[0], x[1], got)
		}
		if widths != nil || heights != nil || need != (api.Size{}) || rects != nil {
			t.Errorf("%d spans, %d others: %v, %v, %v, %v", x[0], x[1], widths, heights, need, rects)
		}
		// ahead of what would be too great
		if _, e := Need(spans, sized(repeated(side, x[1]), 1, 1), 3, side); e != api.ErrGrid {
			t.Errorf("Need of great ones, %d spans, %d others: %d", x[0], x[1], e)
		}
		if _, e := Rects(spans, l, 3, 1, rect(side, side, 0, 0)); e != api.ErrGrid {
			t.Errorf("Rects beyond the last place, %d spans, %d others: %d", x[0], x[1], e)
		}
	}
}
