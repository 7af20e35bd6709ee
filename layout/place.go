package layout

import (
	"casement/api"
	"casement/flex"
	"casement/geom"
	"casement/grid"
)

// places are where all nodes come to lie, the root in a rectangle that may be.
func (p *plan) places(r api.Rect) ([]api.Place, api.Errno) {
	if e := p.ask(); e != api.OK {
		return nil, e
	}
	l := make([]api.Place, len(p.nodes))
	for node := range l {
		l[node].Node = node
	}
	var put func(node int, r, clip api.Rect) api.Errno
	put = func(node int, r, clip api.Rect) api.Errno {
		if geom.Check(r) != api.OK {
			return api.ErrSize
		}
		l[node] = api.Place{Node: node, Rect: r, Clip: clip, Shown: geom.Over(r, clip)}
		left := p.leftOf(node, r)
		rects, e := p.kidRects(node, left)
		if e != api.OK {
			return e
		}
		inside := geom.Meet(clip, left)
		for i, kid := range p.kids[node] {
			if e := put(kid, rects[i], inside); e != api.OK {
				return e
			}
		}
		return api.OK
	}
	if !p.there[root] {
		return l, api.OK
	}
	if e := put(root, r, r); e != api.OK {
		return nil, e
	}
	return l, api.OK
}

// leftOf is what a node's pads leave of its rectangle. It stays where it is, also where it has no place: kids begin there.
func (p *plan) leftOf(node int, r api.Rect) api.Rect {
	pad := padOf(p.nodes[node])
	return api.Rect{
		At:   api.Point{X: r.At.X + min(pad, r.Size.W), Y: r.At.Y + min(pad, r.Size.H)},
		Size: api.Size{W: max(r.Size.W-2*pad, 0), H: max(r.Size.H-2*pad, 0)},
	}
}

// kidRects are the rectangles of a node's kids in what is left of its own; some of them may not be.
func (p *plan) kidRects(node int, left api.Rect) ([]api.Rect, api.Errno) {
	switch p.nodes[node].Kind {
	case api.Box:
		return p.boxRects(node, left)
	case api.Grid:
		return p.gridRects(node, left)
	case api.Stack:
		return p.pileRects(node, left, api.Point{}), api.OK
	case api.Scroll:
		return p.pileRects(node, left, p.nodes[node].Off), api.OK
	}
	return nil, api.OK
}

// boxRects are those one behind the other. A column is worked out as a row, with all turned, and turned back.
func (p *plan) boxRects(node int, left api.Rect) ([]api.Rect, api.Errno) {
	n, kids := p.nodes[node], p.kids[node]
	room := turnedIf(n.Column, left.Size)
	tracks := make([]api.Track, len(kids))
	for i, kid := range kids {
		tracks[i] = api.Track{Min: turnedIf(n.Column, p.needs[kid]).W, Max: turnedIf(n.Column, p.most(kid)).W, Grow: p.nodes[kid].Grow}
	}
	lengths, starts, e := flex.Row(tracks, n.Gap, room.W)
	if e != api.OK {
		return nil, e
	}
	rects := make([]api.Rect, len(kids))
	for i, kid := range kids {
		across := turnedIf(n.Column, p.cut(kid, left.Size)).H
		from := turnedIf(n.Column, api.Size{W: starts[i]})
		rects[i] = api.Rect{
			At:   api.Point{X: left.At.X + from.W, Y: left.At.Y + from.H},
			Size: turnedIf(n.Column, api.Size{W: lengths[i], H: across}),
		}
	}
	return rects, api.OK
}

func (p *plan) gridRects(node int, left api.Rect) ([]api.Rect, api.Errno) {
	n := p.nodes[node]
	rects, e := grid.Rects(p.kidSpans(node), p.kidNeeds(node), n.Columns, n.Gap, left)
	if e != api.OK {
		return nil, e
	}
	for i, kid := range p.kids[node] {
		rects[i].Size = p.cut(kid, rects[i].Size)
	}
	return rects, api.OK
}

// pileRects are those that all begin at one place, which is off away from the room's, but only as far as they have more than the room.
func (p *plan) pileRects(node int, left api.Rect, off api.Point) []api.Rect {
	rects := make([]api.Rect, len(p.kids[node]))
	for i, kid := range p.kids[node] {
		size := p.cut(kid, left.Size)
		gone := api.Point{
			X: min(off.X, max(size.W-left.Size.W, 0)),
			Y: min(off.Y, max(size.H-left.Size.H, 0)),
		}
		rects[i] = api.Rect{At: api.Point{X: left.At.X - gone.X, Y: left.At.Y - gone.Y}, Size: size}
	}
	return rects
}

// most is how great a node may be, 0 for any.
func (p *plan) most(node int) api.Size {
	most, need := p.nodes[node].Max, p.needs[node]
	if most.W > 0 {
		most.W = max(most.W, need.W)
	}
	if most.H > 0 {
		most.H = max(most.H, need.H)
	}
	return most
}

// cut is a size cut for a node: at least what it needs, at most its most.
func (p *plan) cut(node int, s api.Size) api.Size {
	need, most := p.needs[node], p.most(node)
	s = greatest(s, need)
	if most.W > 0 {
		s.W = min(s.W, most.W)
	}
	if most.H > 0 {
		s.H = min(s.H, most.H)
	}
	return s
}
