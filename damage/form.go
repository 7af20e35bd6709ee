package damage

import (
	"slices"

	"casement/api"
	"casement/geom"
	"casement/region"
)

// formOf is the form of rectangles that may be; where they, or those of their form, are too many, the least rectangle about them.
func formOf(l []api.Rect) []api.Rect {
	form, e := region.Of(l)
	if e == api.OK {
		return form
	}
	var about api.Rect
	for _, r := range l {
		about = geom.Join(about, r)
	}
	return []api.Rect{about}
}

// bands is the form of the places of runs, which stand row by row, from the left, and do not touch. They can be more than region takes, though their form is short.
func bands(runs []api.Run) []api.Rect {
	var form, last []api.Rect
	for len(runs) > 0 {
		row := firstRow(runs)
		runs = runs[len(row):]
		if goesOn(last, row) {
			for i := range last {
				last[i].Size.H++
			}
			continue
		}
		form = append(form, row...)
		last = form[len(form)-len(row):]
	}
	return form
}

// firstRow is the places of the runs that lie in one row with the first one.
func firstRow(runs []api.Run) []api.Rect {
	var row []api.Rect
	for _, r := range runs {
		if r.At.Y != runs[0].At.Y {
			break
		}
		row = append(row, api.Rect{At: r.At, Size: api.Size{W: len(r.Cells), H: 1}})
	}
	return row
}

// goesOn tells whether a row lies right below a band, and has the same spans.
func goesOn(band, row []api.Rect) bool {
	return slices.EqualFunc(band, row, func(a, b api.Rect) bool {
		return a.At.X == b.At.X && a.Size.W == b.Size.W && a.At.Y+a.Size.H == b.At.Y
	})
}
