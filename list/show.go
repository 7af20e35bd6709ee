package list

import (
	"slices"

	"casement/api"
	"casement/geom"
)

// shown is the rectangles in which the strokes of a drawing list show, one for each; those of Clips and Opens mean nothing.
func shown(l []api.Stroke) []api.Rect {
	rects := make([]api.Rect, len(l))
	// Each open clip lies on the stack as what it leaves of those about it; the lowest one is open everywhere.
	open := []api.Rect{everywhere()}
	for i, s := range l {
		if s.Kind == api.Open {
			open = open[:len(open)-1]
			continue
		}
		rects[i] = geom.Meet(s.Rect, open[len(open)-1])
		if s.Kind == api.Clip {
			open = append(open, rects[i])
		}
	}
	return rects
}

// everywhere is the rectangle of all places.
func everywhere() api.Rect {
	return api.Rect{
		At:   api.Point{X: -api.MaxSide, Y: -api.MaxSide},
		Size: api.Size{W: 2 * api.MaxSide, H: 2 * api.MaxSide},
	}
}

// pieces is the places at which each stroke of a drawing list shows, as rectangles, none of them empty; they may lie over one another.
func pieces(l []api.Stroke) [][]api.Rect {
	all := make([][]api.Rect, len(l))
	for i, r := range shown(l) {
		all[i] = slices.DeleteFunc(drawn(l[i], r), geom.Empty)
	}
	return all
}

// drawn is what a stroke draws of the rectangle in which it shows.
func drawn(s api.Stroke, r api.Rect) []api.Rect {
	switch {
	case s.Kind == api.Fill && s.Colour.A > 0, s.Kind == api.Write && s.Text != "":
		return []api.Rect{r}
	case s.Kind == api.Frame && s.Colour.A > 0:
		return border(s.Rect, r)
	}
	return nil
}

// border is what a rectangle r has of the first row, the first column, the last column and the last row of a Frame's Rect.
func border(frame, r api.Rect) []api.Rect {
	row, column := api.Size{W: frame.Size.W, H: 1}, api.Size{W: 1, H: frame.Size.H}
	right := api.Point{X: frame.At.X + frame.Size.W - 1, Y: frame.At.Y}
	below := api.Point{X: frame.At.X, Y: frame.At.Y + frame.Size.H - 1}
	return []api.Rect{
		geom.Meet(r, api.Rect{At: frame.At, Size: row}),
		geom.Meet(r, api.Rect{At: frame.At, Size: column}),
		geom.Meet(r, api.Rect{At: right, Size: column}),
		geom.Meet(r, api.Rect{At: below, Size: row}),
	}
}
