package damage

import (
	"casement/api"
	"casement/cells"
	"casement/geom"
	"casement/list"
)

// drawn is what a list makes of a screen of bare cells in the places of a region; at others it may be anything. All three may be (Mend has asked), so bare cells and drawing have no errors.
func drawn(s api.Size, l []api.Stroke, r []api.Rect) api.Screen {
	// A list that is cut to the region spares the drawing of all else; where it would be too long, the whole one is drawn.
	if cut, e := list.Within(l, r); e == api.OK {
		l = cut
	}
	bare, _ := cells.Blank(s, api.Colour{})
	made, _ := cells.Draw(bare, l)
	return made
}

// lay writes what one screen has in a rectangle over what another one, of the same size, has there.
func lay(to, from api.Screen, r api.Rect) {
	r = geom.Meet(r, api.Rect{Size: to.Size})
	for y := range r.Size.H {
		first := (r.At.Y+y)*to.Size.W + r.At.X
		copy(to.Cells[first:first+r.Size.W], from.Cells[first:])
	}
}
