package cells

import (
	"slices"
	"unicode/utf8"

	"casement/api"
)

// reader does what a text says, thing by thing: it keeps the place at which the next rune is put, and the colours told last.
type reader struct {
	screen       api.Screen
	place        api.Point
	colour, back api.Colour
}

// thing does what the first thing of a text, which is not empty, says, and answers how many bytes it has: 0, if it is none, or can't be done.
func (r *reader) thing(text string) int {
	if text[0] == escape {
		return r.escape(text)
	}
	return r.cell(text)
}

func (r *reader) escape(text string) int {
	q, ok := sequenceOf(text)
	if !ok || !r.obey(q) {
		return 0
	}
	return q.size
}

// obey does what a sequence says; false: it is none that says something.
func (r *reader) obey(q sequence) bool {
	switch {
	case q.letter == 'H' && q.count == 2:
		return r.jump(q.numbers[1], q.numbers[0])
	case q.letter == 'm' && q.count == 6 && q.numbers[1] == byParts:
		return r.dip(q.numbers)
	}
	return false
}

// jump goes to a place, which is counted from 1 on, of the screen or not.
func (r *reader) jump(x, y int) bool {
	if x < 1 || y < 1 {
		return false
	}
	r.place = api.Point{X: x - 1, Y: y - 1}
	return true
}

// dip takes a colour for the runes that follow, or for what is behind them, as all numbers of a sequence tell it.
func (r *reader) dip(numbers [6]int) bool {
	if slices.Max(numbers[2:]) > opaque {
		return false
	}
	c := api.Colour{R: uint8(numbers[2]), G: uint8(numbers[3]), B: uint8(numbers[4]), A: uint8(numbers[5])}
	switch numbers[0] {
	case ofRune:
		r.colour = c
	case ofBack:
		r.back = c
	default:
		return false
	}
	return true
}

// cell puts a rune, or one half of it, if the byte ahead of it says so.
func (r *reader) cell(text string) int {
	mark := 0
	if text[0] == leftHalf || text[0] == rightHalf {
		mark = 1
	}
	c, size := utf8.DecodeRuneInString(text[mark:])
	if c == utf8.RuneError && size < 2 {
		return 0 // nothing, or a broken byte; a whole U+FFFD has more of them
	}
	if !r.put(meant(c, text[:mark])) {
		return 0
	}
	return mark + size
}

// meant is the cells of a rune that are to be put, by what is ahead of it: none, if that asks for a half of what has none.
func meant(c rune, ahead string) []api.Cell {
	halves, width := shape(c)
	switch {
	case ahead == "":
		return halves[:width]
	case width < 2:
		return nil
	case ahead[0] == leftHalf:
		return halves[:1]
	}
	return halves[1:]
}

// put puts cells from the place on, and goes behind them; false: there are none, or some would lie beyond the row's end, or in no row.
func (r *reader) put(l []api.Cell) bool {
	size := r.screen.Size
	if len(l) == 0 || r.place.Y >= size.H || len(l) > size.W-r.place.X {
		return false
	}
	to := row(r.screen, r.place.Y)[r.place.X:]
	for i, c := range l {
		c.Colour, c.Back = r.colour, r.back
		to[i] = c
	}
	r.place.X += len(l)
	return true
}

// sequence is an escape that was read: its numbers, the letter behind them, and how many bytes it has.
type sequence struct {
	numbers [6]int
	count   int
	letter  byte
	size    int
}

// sequenceOf reads the escape with which a text begins; false: there is none that is whole, or its numbers are no such ones.
func sequenceOf(text string) (sequence, bool) {
	var q sequence
	if len(text) < 2 || text[0] != escape || text[1] != '[' {
		return sequence{}, false
	}
	q.size = 2
	for q.count < len(q.numbers) {
		n, digits := number(text[q.size:])
		q.size += digits
		if digits == 0 || q.size == len(text) {
			return sequence{}, false
		}
		q.numbers[q.count] = n
		q.count++
		q.letter = text[q.size]
		q.size++
		if q.letter != ';' {
			return q, true
		}
	}
	return sequence{}, false
}

// number reads the number with which a text begins, and answers how many digits it has: 0, if there is none, or not in its one form, or one beyond all that may stand in a sequence.
func number(text string) (int, int) {
	n, digits := 0, 0
	for digits < len(text) && text[digits] >= '0' && text[digits] <= '9' {
		n = 10*n + int(text[digits]-'0')
		digits++
		if n > api.MaxSide || digits > 1 && text[0] == '0' {
			return 0, 0
		}
	}
	return n, digits
}
