package cells

import (
	"slices"

	"casement/api"
	"casement/runes"
)

// blank is a cell in which nothing but its back shows.
func blank(back api.Colour) api.Cell {
	return api.Cell{Rune: ' ', Back: back}
}

// shape is the cells that a rune has, as many of the two as it is wide, without colours.
func shape(r rune) ([2]api.Cell, int) {
	width := runes.Width(r)
	if width == 2 {
		return [2]api.Cell{{Rune: r, Wide: true}, {Rune: r, Tail: true}}, width
	}
	return [2]api.Cell{{Rune: r}}, width
}

// copied is a screen with cells of its own.
func copied(s api.Screen) api.Screen {
	return api.Screen{Size: s.Size, Cells: slices.Clone(s.Cells)}
}

// row is the cells of a screen's row, not copied.
func row(s api.Screen, y int) []api.Cell {
	return s.Cells[y*s.Size.W : (y+1)*s.Size.W]
}

// appendUnlike appends the pieces in which the rows y of two screens are unlike, each with cells of its own.
func appendUnlike(all []api.Run, a, b []api.Cell, y int) []api.Run {
	for from := 0; from < len(a); from++ {
		to := from
		for to < len(a) && a[to] != b[to] {
			to++
		}
		if to > from {
			all = append(all, api.Run{At: api.Point{X: from, Y: y}, Cells: slices.Clone(b[from:to])})
			from = to // the cell there, if there is one, is like: the next piece begins behind it
		}
	}
	return all
}
