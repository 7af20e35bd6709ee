package layout

import (
	"slices"

	"casement/api"
	"casement/geom"
)

// numbers tells whether places are those of all nodes, by their numbers.
func (p *plan) numbers(l []api.Place) bool {
	if len(l) != len(p.nodes) {
		return false
	}
	for node, place := range l {
		if place.Node != node {
			return false
		}
	}
	return true
}

// unfit is the least number of a node that places do not fit; none, if they fit all. As what holds a node has a lesser number, its rectangle is known to fit when the node's own is asked.
func (p *plan) unfit(l []api.Place) int {
	for node := range l {
		if !p.fits(node, l) {
			return node
		}
	}
	return none
}

func (p *plan) fits(node int, l []api.Place) bool {
	if !p.there[node] {
		return l[node] == api.Place{Node: node}
	}
	r := l[node].Rect
	switch {
	case geom.Check(r) != api.OK || greatest(r.Size, p.needs[node]) != r.Size:
		return false
	case node == root:
		return true
	}
	return p.cut(node, r.Size) == r.Size && p.fitsAbove(node, l)
}

// fitsAbove tells whether a node lies well in what holds it, and beside those ahead of it.
func (p *plan) fitsAbove(node int, l []api.Place) bool {
	above := p.above[node]
	switch p.nodes[above].Kind {
	case api.Box, api.Grid:
		return p.within(node, above, l) && !p.overOthers(node, above, l)
	case api.Stack:
		return p.within(node, above, l)
	}
	return true // what a Scroll holds may lie anywhere
}

// within tells whether a node's edges lie within what is left of another one's rectangle. Places would not do: one without a place has edges, too.
func (p *plan) within(node, above int, l []api.Place) bool {
	r, left := l[node].Rect, p.leftOf(above, l[above].Rect)
	return r.At.X >= left.At.X && r.At.X+r.Size.W <= left.At.X+left.Size.W &&
		r.At.Y >= left.At.Y && r.At.Y+r.Size.H <= left.At.Y+left.Size.H
}

// overOthers tells whether a node has a place together with a kid ahead of it.
func (p *plan) overOthers(node, above int, l []api.Place) bool {
	kids := p.kids[above]
	ahead := kids[:slices.Index(kids, node)]
	return slices.ContainsFunc(ahead, func(kid int) bool { return geom.Over(l[kid].Rect, l[node].Rect) })
}
