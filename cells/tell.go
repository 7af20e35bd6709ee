package cells

import (
	"strconv"
	"strings"

	"casement/api"
)

// Bytes of a terminal's text. Ahead of a rune of two cells, two of them say that one half of it is meant alone.
const (
	escape    = 27
	leftHalf  = 14
	rightHalf = 15
)

// The numbers with which sequences begin that tell a rune's colour, and its back; and the one behind it, which says that the colour's own numbers follow.
const (
	ofRune  = 38
	ofBack  = 48
	byParts = 2
)

// Ways in which a cell of a row is told.
const (
	whole      = iota // a rune of one cell, or a left half with its right half behind it
	rest              // that right half
	leftAlone         // a left half whose right half does not follow
	rightAlone        // a right half whose left half is not ahead
)

// wayOf tells how a cell is told, where joins tells which left and right halves belong together.
func wayOf(row []api.Cell, at int, joins func(left, right api.Cell) bool) int {
	switch c := row[at]; {
	case c.Wide && (at+1 == len(row) || !joins(c, row[at+1])):
		return leftAlone
	case c.Tail && at > 0 && joins(row[at-1], c):
		return rest
	case c.Tail:
		return rightAlone
	}
	return whole
}

// sameRune tells whether two cells are the halves of one rune, whatever their colours.
func sameRune(left, right api.Cell) bool {
	return left.Wide && right.Tail && left.Rune == right.Rune
}

// sameLook tells whether two cells are the halves of one rune in the same colours.
func sameLook(left, right api.Cell) bool {
	return sameRune(left, right) && left.Colour == right.Colour && left.Back == right.Back
}

// writeRow writes the runes of a row.
func writeRow(text *strings.Builder, row []api.Cell) {
	for at, c := range row {
		switch wayOf(row, at, sameRune) {
		case whole:
			text.WriteRune(c.Rune)
		case leftAlone, rightAlone:
			text.WriteByte(' ')
		}
	}
}

// teller writes runs as a text for a terminal; it keeps the colours that it told last.
type teller struct {
	text         strings.Builder
	colour, back api.Colour
}

// full tells whether the text is longer than an answer may be: there is no need to go on.
func (t *teller) full() bool { return t.text.Len() > api.MaxAnswer }

func (t *teller) run(r api.Run) {
	t.sequence('H', r.At.Y+1, r.At.X+1)
	for at := 0; at < len(r.Cells) && !t.full(); at++ {
		t.cell(r.Cells[at], wayOf(r.Cells, at, sameLook))
	}
}

func (t *teller) cell(c api.Cell, way int) {
	if way == rest {
		return
	}
	t.colours(c)
	switch way {
	case leftAlone:
		t.text.WriteByte(leftHalf)
	case rightAlone:
		t.text.WriteByte(rightHalf)
	}
	t.text.WriteRune(c.Rune)
}

// colours tells those of a cell that are others than the ones told last.
func (t *teller) colours(c api.Cell) {
	if c.Colour != t.colour {
		t.colour = c.Colour
		t.paint(ofRune, c.Colour)
	}
	if c.Back != t.back {
		t.back = c.Back
		t.paint(ofBack, c.Back)
	}
}

func (t *teller) paint(of int, c api.Colour) {
	t.sequence('m', of, byParts, int(c.R), int(c.G), int(c.B), int(c.A))
}

// sequence writes an escape with numbers, and the letter that says what they are for.
func (t *teller) sequence(letter byte, numbers ...int) {
	t.text.WriteByte(escape)
	for i, n := range numbers {
		if i == 0 {
			t.text.WriteByte('[')
		} else {
			t.text.WriteByte(';')
		}
		t.text.WriteString(strconv.Itoa(n))
	}
	t.text.WriteByte(letter)
}
