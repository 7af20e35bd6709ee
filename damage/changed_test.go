package damage

import (
	"testing"

	"casement/api"
)

// page is a screen of rows of runes, one cell each.
func page(rows ...string) api.Screen {
	var s api.Screen
	for _, r := range rows {
		s.Size = size(len(r), len(rows))
		for _, c := range r {
			s.Cells = append(s.Cells, api.Cell{Rune: c})
		}
	}
	return s
}

// P17.3: screens that are alike; of no cells, of one.
func TestChangedNothing(t *testing.T) {
	for _, s := range []api.Size{size(0, 0), size(0, 3), size(3, 0), size(0, side), size(side, 0), size(1, 1), size(5, 3)} {
		unlike(t, blanks(t, s), blanks(t, s))
		unlike(t, dyed(s), dyed(s))
		unlike(t, api.Screen{Size: s, Cells: dyed(s).Cells}, dyed(s))
	}
	unlike(t, api.Screen{}, blanks(t, size(0, 0)))
	unlike(t, page("a"), page("b"), rect(0, 0, 1, 1))
	unlike(t, page("ab", "cd"), page("ab", "cd"))
}

// P17.3: cells that are unlike in one field alone.
func TestChangedFields(t *testing.T) {
	s := dyed(size(3, 3))
	left, right := halves(white, blue)
	for _, one := range []struct{ a, b api.Cell }{
		{s.Cells[0], api.Cell{Rune: 'y', Colour: white, Back: blue}},
		{s.Cells[0], api.Cell{Rune: 'z', Colour: api.Colour{R: 254, G: 255, B: 255, A: 255}, Back: blue}},
		{s.Cells[0], api.Cell{Rune: 'z', Colour: api.Colour{R: 255, G: 254, B: 255, A: 255}, Back: blue}},
		{s.Cells[0], api.Cell{Rune: 'z', Colour: api.Colour{R: 255, G: 255, B: 254, A: 255}, Back: blue}},
		{s.Cells[0], api.Cell{Rune: 'z', Colour: api.Colour{R: 255, G: 255, B: 255, A: 254}, Back: blue}},
		{s.Cells[0], api.Cell{Rune: 'z', Colour: white, Back: api.Colour{R: 1, B: 255, A: 255}}},
		{s.Cells[0], api.Cell{Rune: 'z', Colour: white, Back: api.Colour{G: 1, B: 255, A: 255}}},
		{s.Cells[0], api.Cell{Rune: 'z', Colour: white, Back: api.Colour{B: 254, A: 255}}},
		{s.Cells[0], api.Cell{Rune: 'z', Colour: white, Back: api.Colour{B: 255, A: 254}}},
		{left, right},
		{left, api.Cell{Rune: 0x4e01, Colour: white, Back: blue, Wide: true}},
		{bare, api.Cell{Rune: ' ', Colour: red}},
	} {
		a := with(s, map[api.Point]api.Cell{point(1, 2): one.a})
		b := with(s, map[api.Point]api.Cell{point(1, 2): one.b})
		unlike(t, a, b, rect(1, 2, 1, 1))
		unlike(t, a, a)
	}
}

// P17.3: spans and bands: the one form.
func TestChangedForm(t *testing.T) {
	for _, one := range []struct {
		page api.Screen // o: unlike
		want []api.Rect
	}{
		{page("....", "....", "...."), nil},
		{page("oooo", "oooo", "oooo"), rects(rect(0, 0, 4, 3))},
		{page("o...", "....", "...."), rects(rect(0, 0, 1, 1))},
		{page("....", "....", "...o"), rects(rect(3, 2, 1, 1))},
		{page("....", "oooo", "...."), rects(rect(0, 1, 4, 1))},
		{page("..o.", "..o.", "..o."), rects(rect(2, 0, 1, 3))},
		// rows that are the same form a band only if they follow one another
		{page("oo..", "....", "oo.."), rects(rect(0, 0, 2, 1), rect(0, 2, 2, 1))},
		{page("oo..", "oo..", "oo.o"), rects(rect(0, 0, 2, 2), rect(0, 2, 2, 1), rect(3, 2, 1, 1))},
		{page("o.o.", "o.o.", "o.o."), rects(rect(0, 0, 1, 3), rect(2, 0, 1, 3))},
		{page("o.o.", "o.o.", ".o.o"), rects(rect(0, 0, 1, 2), rect(2, 0, 1, 2), rect(1, 2, 1, 1), rect(3, 2, 1, 1))},
		{page("o.oo", "oo.o", "o.oo"), rects(rect(0, 0, 1, 1), rect(2, 0, 2, 1), rect(0, 1, 2, 1), rect(3, 1, 1, 1), rect(0, 2, 1, 1), rect(2, 2, 2, 1))},
		{page("ooo.", "oooo", "ooo."), rects(rect(0, 0, 3, 1), rect(0, 1, 4, 1), rect(0, 2, 3, 1))},
		{page(".ooo", "oooo", ".ooo"), rects(rect(1, 0, 3, 1), rect(0, 1, 4, 1), rect(1, 2, 3, 1))},
		{page("oo..", "..oo", "...."), rects(rect(0, 0, 2, 1), rect(2, 1, 2, 1))},
		// a row's last place and the next row's first one do not touch
		{page("...o", "o...", "...."), rects(rect(3, 0, 1, 1), rect(0, 1, 1, 1))},
		{page("o.o.", "o...", "o.o."), rects(rect(0, 0, 1, 1), rect(2, 0, 1, 1), rect(0, 1, 1, 1), rect(0, 2, 1, 1), rect(2, 2, 1, 1))},
		{page("o", "o", ".", "o"), rects(rect(0, 0, 1, 2), rect(0, 3, 1, 1))},
		{page("o.oo.o"), rects(rect(0, 0, 1, 1), rect(2, 0, 2, 1), rect(5, 0, 1, 1))},
		{page("o.", "..", "..", "o.", "o.", "oo", "oo", ".o"), rects(rect(0, 0, 1, 1), rect(0, 3, 1, 2), rect(0, 5, 2, 2), rect(1, 7, 1, 1))},
	} {
		plain := dyed(one.page.Size)
		marks := map[api.Point]api.Cell{}
		for i, c := range one.page.Cells {
			if c.Rune == 'o' {
				marks[point(i%plain.Size.W, i/plain.Size.W)] = bare
			}
		}
		unlike(t, plain, with(plain, marks), one.want...)
	}
}

// P17.3: screens of unlike sizes, also such as have as many cells, or none.
func TestChangedSizes(t *testing.T) {
	sizes := []api.Size{size(0, 0), size(0, 1), size(1, 0), size(0, 6), size(6, 0), size(1, 1), size(2, 3), size(3, 2), size(6, 1), size(1, 6), size(6, 2)}
	for i, a := range sizes {
		for j, b := range sizes {
			want := api.OK
			if i != j {
				want = api.ErrCell
			}
			if got, e := Changed(dyed(a), dyed(b)); len(got) > 0 || e != want {
				t.Errorf("Changed of %v and %v: %v, %d", a, b, got, e)
			}
		}
	}
}
