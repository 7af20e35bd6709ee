package hit

import (
	"casement/api"
	"casement/geom"
	"casement/layout"
	"casement/tree"
)

// eachDrawn tells see of each node that is shown, in the order of drawing, and of what of its rectangle shows; of none beside an error.
func eachDrawn(s api.Spec, r api.Rect, see func(node int, shows api.Rect)) api.Errno {
	places, e := layout.Places(s, r)
	if e != api.OK {
		return e
	}
	for node := range tree.Walk(s) {
		if place := places[node]; place.Shown {
			see(node, geom.Meet(place.Rect, place.Clip))
		}
	}
	return api.OK
}

// eachAt tells see of each node that lies at a point, in the order of drawing.
func eachAt(s api.Spec, r api.Rect, p api.Point, see func(node int)) api.Errno {
	return eachDrawn(s, r, func(node int, shows api.Rect) {
		if geom.Has(shows, p) {
			see(node)
		}
	})
}

func checkCells(r api.Rect) api.Errno {
	if geom.Area(r) > api.MaxCells {
		return api.ErrCell
	}
	return api.OK
}

func fill(row []int, node int) {
	for x := range row {
		row[x] = node
	}
}
