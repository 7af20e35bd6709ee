package paint

import (
	"slices"

	"casement/api"
	"casement/part"
	"casement/style"
	"casement/wrap"
)

// styles is nodes with what their looks hang on, all of which may be.
type styles struct {
	nodes  []api.Node
	theme  []api.Rule
	states []uint8
}

func (st styles) look(node int) api.Look {
	n := st.nodes[node]
	look, _ := style.Look(st.theme, n.Kind, n.Class, st.state(node)) // its one error is the theme's
	return look
}

// state is a node's state: 0 of those for which none is told.
func (st styles) state(node int) uint8 {
	if node < len(st.states) {
		return st.states[node]
	}
	return 0
}

// piece is what a node draws at its place; nothing, if that is not shown.
func (st styles) piece(place api.Place) []api.Stroke {
	if !place.Shown {
		return nil
	}
	// What a part paints does not hang on the parts that it holds, so it is made without them.
	p, e := wrap.Made(st.nodes[place.Node], nil)
	if e != api.OK {
		return nil
	}
	draw := brushOf(p)
	return draw(place, st.look(place.Node))
}

// brush draws a node's piece at its place, by its look.
type brush func(place api.Place, look api.Look) []api.Stroke

// brushOf is what is done with a node, by what its part can.
func brushOf(p part.Part) brush {
	if !paints(p) {
		return func(api.Place, api.Look) []api.Stroke { return nil }
	}
	return func(place api.Place, look api.Look) []api.Stroke {
		strokes, e := part.Strokes(p, place.Rect, look)
		if e != api.OK || len(strokes) == 0 {
			return nil
		}
		return clipped(place, strokes)
	}
}

// paints asks a part by an assertion whether it can paint.
func paints(p part.Part) bool {
	_, ok := p.(part.Painter)
	return ok
}

// clipped is strokes within their place's clip, all of them with the node's number.
func clipped(place api.Place, strokes []api.Stroke) []api.Stroke {
	piece := slices.Concat([]api.Stroke{{Kind: api.Clip, Rect: place.Clip}}, strokes, []api.Stroke{{Kind: api.Open}})
	for i := range piece {
		piece[i].Node = place.Node
	}
	return piece
}
