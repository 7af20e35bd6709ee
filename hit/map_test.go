package hit

import (
	"slices"
	"testing"

	"casement/api"
)

// P20.2: the chapter's examples.
func TestExamplesOfMap(t *testing.T) {
	mapped(t, "B", pair(), rect(0, 0, 10, 1), "1102222220")
	mapped(t, "B in no place", pair(), rect(5, 5, 0, 3))
	if l, e := Map(pair(), rect(0, 0, 1024, 257)); l != nil || e != api.ErrCell {
		t.Errorf("Map of too many places: %d of them, %d", len(l), e)
	}
}

// P20.2: row by row, each from the left, wherever the rectangle lies.
func TestRowByRow(t *testing.T) {
	s := columns(box(sized(2, 1), sized(1, 1)), sized(1, 2))
	for _, r := range []api.Rect{rect(0, 0, 4, 3), rect(7, -2, 4, 3), rect(-side, -side, 4, 3), rect(side-4, side-3, 4, 3), rect(-2, -1, 4, 3)} {
		mapped(t, "a column", s, r, "2231", "4000", "4000")
	}
	mapped(t, "one row", s, rect(3, 3, 3, 1), "223")
	mapped(t, "one column", s, rect(3, 3, 1, 4), "2", "4", "4", "0")
	mapped(t, "one place", s, rect(3, 3, 1, 1), "2")
	mapped(t, "two by two", s, rect(3, 3, 2, 2), "22", "40")
}

// P20.2: places at which nobody lies are -1: all, or none, as the root has them all.
func TestNobody(t *testing.T) {
	mapped(t, "hidden", hidden(pair()), rect(1, 1, 3, 2), "...", "...")
	mapped(t, "hollow", wrapped(pair(), half()), rect(1, 1, 3, 2), "...", "...")
	mapped(t, "there", one(api.Canvas), rect(1, 1, 3, 2), "000", "000")
}

// P20.2: just as many places as may be, of all shapes, and one more; a side of 0 takes all others.
func TestMostPlaces(t *testing.T) {
	for _, c := range []struct {
		w, h int
		e    api.Errno
	}{
		{512, 512, api.OK}, {1024, 256, api.OK}, {256, 1024, api.OK}, {2 * side, 8, api.OK}, {8, 2 * side, api.OK},
		{513, 511, api.OK}, {2 * side, 7, api.OK}, {side, 16, api.OK}, {3, 2 * side, api.OK},
		{513, 512, api.ErrCell}, {512, 513, api.ErrCell}, {2 * side, 9, api.ErrCell}, {9, 2 * side, api.ErrCell},
		{2 * side, 2 * side, api.ErrCell}, {1024, 257, api.ErrCell}, {side, 17, api.ErrCell},
		{65, 4033, api.ErrCell}, {7085, 37, api.ErrCell}, {545, 481, api.ErrCell}, {13, 20165, api.ErrCell}, // MaxCells and 1
		{0, 2 * side, api.OK}, {2 * side, 0, api.OK}, {0, 0, api.OK},
	} {
		r := rect(-side, -side, c.w, c.h)
		l, e := Map(stack(sized(2, 1)), r)
		if e != c.e {
			t.Errorf("Map of %d by %d: %d; %d", c.w, c.h, e, c.e)
			continue
		}
		if e != api.OK {
			if l != nil {
				t.Errorf("Map of %d by %d: %d places beside %d", c.w, c.h, len(l), e)
			}
			continue
		}
		if len(l) != c.w*c.h {
			t.Errorf("Map of %d by %d: %d places", c.w, c.h, len(l))
			continue
		}
		want := make([]int, c.w*c.h)
		copy(want, []int{1, 1})
		if !slices.Equal(l, want) {
			t.Errorf("Map of %d by %d: it begins %v", c.w, c.h, l[:min(len(l), 9)])
		}
	}
}

// P20.1: At and All go by no number of places.
func TestAnyPlaces(t *testing.T) {
	all := rect(-side, -side, 2*side, 2*side)
	under(t, "B", pair(), all, at(3-side, -side), 2, 0)
	under(t, "B", pair(), rect(0, 0, 1024, 257), at(1023, 256), 0)
}
