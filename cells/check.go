package cells

import (
	"slices"
	"unicode/utf8"

	"casement/api"
	"casement/runes"
)

// sizeMayBe tells whether a screen may have a size. Each side is asked ahead of the product, which could wrap round.
func sizeMayBe(s api.Size) bool {
	return s.W >= 0 && s.W <= api.MaxSide && s.H >= 0 && s.H <= api.MaxSide && s.W*s.H <= api.MaxCells
}

func cellsMayBe(l []api.Cell) bool {
	for _, c := range l {
		if !cellMayBe(c) {
			return false
		}
	}
	return true
}

func cellMayBe(c api.Cell) bool {
	// Numbers that are no runes have a width, too.
	if !utf8.ValidRune(c.Rune) {
		return false
	}
	switch runes.Width(c.Rune) {
	case 1:
		return !c.Wide && !c.Tail
	case 2:
		return c.Wide != c.Tail
	}
	return false
}

// isPlace tells whether a point is a place of a screen of that size.
func isPlace(s api.Size, p api.Point) bool {
	return p.X >= 0 && p.X < s.W && p.Y >= 0 && p.Y < s.H
}

// runFits tells whether a run may be for a screen's size.
func runFits(s api.Size, r api.Run) bool {
	return isPlace(s, r.At) && len(r.Cells) > 0 && len(r.Cells) <= s.W-r.At.X && cellsMayBe(r.Cells)
}

// runsMayBe tells whether each run may be for itself: it may be longer than any row.
func runsMayBe(l []api.Run) bool {
	widest := api.Size{W: api.MaxSide, H: api.MaxSide}
	wrong := func(r api.Run) bool {
		return !isPlace(widest, r.At) || len(r.Cells) == 0 || !cellsMayBe(r.Cells)
	}
	return !slices.ContainsFunc(l, wrong)
}
