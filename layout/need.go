package layout

import (
	"casement/api"
	"casement/grid"
)

// ask finds out what all nodes need, each behind its kids.
func (p *plan) ask() api.Errno {
	var visit func(node int) api.Errno
	visit = func(node int) api.Errno {
		for _, kid := range p.kids[node] {
			if e := visit(kid); e != api.OK {
				return e
			}
		}
		var e api.Errno
		p.needs[node], e = p.need(node)
		return e
	}
	if !p.there[root] {
		return api.OK
	}
	return visit(root)
}

// need is what a node needs that is there; what its kids need is known.
func (p *plan) need(node int) (api.Size, api.Errno) {
	n := p.nodes[node]
	need := greatest(n.Min, measured(p.parts[node]))
	if len(p.kids[node]) > 0 {
		all, e := p.together(node)
		if e != api.OK {
			return api.Size{}, e
		}
		pads := 2 * padOf(n)
		need = greatest(need, api.Size{W: all.W + pads, H: all.H + pads})
	}
	if need.W > api.MaxSide || need.H > api.MaxSide {
		return api.Size{}, api.ErrSize
	}
	return need, api.OK
}

// together is what a node's kids need together, without its pads.
func (p *plan) together(node int) (api.Size, api.Errno) {
	n, needs := p.nodes[node], p.kidNeeds(node)
	switch n.Kind {
	case api.Box:
		return rowNeed(needs, n.Gap, n.Column), api.OK
	case api.Grid:
		return grid.Need(p.kidSpans(node), needs, n.Columns, n.Gap)
	case api.Stack:
		return greatest(needs...), api.OK
	}
	return api.Size{}, api.OK // a Scroll shows a piece, however small
}

// rowNeed is what sizes need one behind the other, with gaps between them.
func rowNeed(needs []api.Size, gap int, column bool) api.Size {
	row := api.Size{W: gap * max(len(needs)-1, 0)}
	for _, need := range needs {
		need = turnedIf(column, need)
		row.W += need.W
		row.H = max(row.H, need.H)
	}
	return turnedIf(column, row)
}

// greatest is the greatest of several sizes, each way for itself.
func greatest(l ...api.Size) api.Size {
	var all api.Size
	for _, s := range l {
		all = api.Size{W: max(all.W, s.W), H: max(all.H, s.H)}
	}
	return all
}

// turnedIf exchanges W and H for a column, so that it goes like a row.
func turnedIf(column bool, s api.Size) api.Size {
	if column {
		return api.Size{W: s.H, H: s.W}
	}
	return s
}

// alongRow is what a Box's kids ask of their edges in its direction: two numbers a kid.
func (p *plan) alongRow(node int) ([]api.Bound, int) {
	n, needs := p.nodes[node], p.kidNeeds(node)
	var bounds []api.Bound
	for i, need := range needs {
		begin, end := 2*i, 2*i+1
		if i > 0 {
			bounds = append(bounds, api.Bound{A: begin - 1, B: begin, Far: n.Gap})
		}
		bounds = append(bounds, api.Bound{A: begin, B: end, Far: turnedIf(n.Column, need).W})
	}
	return bounds, 2 * len(needs)
}

// acrossRow is what they ask in the other direction, where all begin and end alike.
func (p *plan) acrossRow(node int) ([]api.Bound, int) {
	needs := p.kidNeeds(node)
	if len(needs) == 0 {
		return nil, 0
	}
	var bounds []api.Bound
	for _, need := range needs {
		bounds = append(bounds, api.Bound{A: 0, B: 1, Far: turnedIf(p.nodes[node].Column, need).H})
	}
	return bounds, 2
}
