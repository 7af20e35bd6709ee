package cells

import (
	"iter"
	"strings"

	"casement/api"
	"casement/colour"
	"casement/geom"
)

// opaque is the A of a colour through which nothing shows, and the greatest number that a part of one may be.
const opaque = 255

// draw draws a stroke in the area of a screen in which it shows.
func draw(to api.Screen, s api.Stroke, area api.Rect) {
	switch s.Kind {
	case api.Fill:
		drawFill(to, s, area)
	case api.Frame:
		drawFrame(to, s, area)
	case api.Write:
		drawWrite(to, s, area)
	}
}

// rows goes through what an area has of a screen's rows, by their Y.
func rows(s api.Screen, area api.Rect) iter.Seq2[int, []api.Cell] {
	return func(yield func(int, []api.Cell) bool) {
		for y := area.At.Y; y < area.At.Y+area.Size.H; y++ {
			if !yield(y, row(s, y)[area.At.X:area.At.X+area.Size.W]) {
				return
			}
		}
	}
}

func drawFill(to api.Screen, s api.Stroke, area api.Rect) {
	if s.Colour.A == 0 {
		return
	}
	for _, piece := range rows(to, area) {
		if s.Colour.A == opaque {
			wipe(piece, s.Colour)
		} else {
			tint(piece, s.Colour)
		}
	}
}

// wipe makes blanks of cells.
func wipe(l []api.Cell, back api.Colour) {
	clean := blank(back)
	for i := range l {
		l[i] = clean
	}
}

// tint lays a colour over cells, through which their runes show.
func tint(l []api.Cell, in api.Colour) {
	for i, c := range l {
		l[i].Colour = colour.Over(in, c.Colour)
		l[i].Back = colour.Over(in, c.Back)
	}
}

func drawFrame(to api.Screen, s api.Stroke, area api.Rect) {
	if s.Colour.A == 0 {
		return
	}
	for _, side := range border(s.Rect) {
		side = geom.Meet(side, area)
		for y, piece := range rows(to, side) {
			for i := range piece {
				r := boxRune(s.Rect, api.Point{X: side.At.X + i, Y: y})
				piece[i] = api.Cell{Rune: r, Colour: colour.Over(s.Colour, piece[i].Back), Back: piece[i].Back}
			}
		}
	}
}

// border is the first and last rows and columns of a rectangle that may be (so there are no errors), each place once.
func border(r api.Rect) []api.Rect {
	inside, _ := geom.Inset(r, 1)
	sides, _ := geom.Less(r, inside)
	return sides
}

// box is the runes of a frame's border by edges: of the place's row, and of its column.
var box = [4][4]rune{
	{0, 0x2502, 0x2502, 0x2502}, // a place at no edge at all is none of the border
	{0x2500, 0x250c, 0x2510, 0x2502},
	{0x2500, 0x2514, 0x2518, 0x2502},
	{0x2500, 0x2500, 0x2500, 0x25a1},
}

// boxRune is what a frame of the rectangle r has at a place of its border.
func boxRune(r api.Rect, p api.Point) rune {
	return box[edges(p.Y-r.At.Y, r.Size.H)][edges(p.X-r.At.X, r.Size.W)]
}

// edges tells at which ends of so many a number lies: 0 at none, 1 at the first, 2 at the last, 3 at both.
func edges(n, of int) int {
	ends := 0
	if n == 0 {
		ends += 1
	}
	if n == of-1 {
		ends += 2
	}
	return ends
}

// drawWrite goes through the lines from the Rect's first row on, the area's or not, as far as the area goes.
func drawWrite(to api.Screen, s api.Stroke, area api.Rect) {
	text, more := s.Text, true
	for y := s.Rect.At.Y; more && y < area.At.Y+area.Size.H; y++ {
		var line string
		line, text, more = strings.Cut(text, "\n")
		if y >= area.At.Y {
			piece := row(to, y)[area.At.X : area.At.X+area.Size.W]
			writeLine(piece, s.Rect.At.X-area.At.X, line, s)
		}
	}
}

// writeLine writes a line into a piece of a row, from the cell with the number at on, which lies ahead of the piece if it is below 0. Only first runes of text pieces have a width, so these are all that is to be put.
func writeLine(piece []api.Cell, at int, line string, s api.Stroke) {
	for _, r := range line {
		if at >= len(piece) {
			return
		}
		halves, width := shape(r)
		for i := range width {
			if at >= 0 && at < len(piece) {
				piece[at] = written(piece[at], halves[i], s)
			}
			at++
		}
	}
}

// written is a rune's cell upon what was there.
func written(c, half api.Cell, s api.Stroke) api.Cell {
	half.Back = colour.Over(s.Back, c.Back)
	half.Colour = colour.Over(s.Colour, half.Back)
	return half
}
