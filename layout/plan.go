package layout

import (
	"casement/api"
	"casement/part"
	"casement/tree"
)

const (
	root = 0
	none = -1 // the number of no node
)

// plan is a spec's nodes with what is found out about them. All lists go by the nodes' numbers.
type plan struct {
	nodes []api.Node
	parts []part.Part
	there []bool
	kids  [][]int // those that are there; none of a node that is not, or can't hold
	above []int   // what holds a node that is there; none of the root
	needs []api.Size
}

// planOf finds out which nodes of a spec are there. What they need is not asked yet: other errors come ahead of that.
func planOf(s api.Spec) (*plan, api.Errno) {
	parts, e := tree.Made(s)
	if e != api.OK {
		return nil, e
	}
	count := len(parts)
	p := &plan{nodes: s.Nodes, parts: parts, there: make([]bool, count), kids: make([][]int, count), above: make([]int, count), needs: make([]api.Size, count)}
	var visit func(node, above int)
	visit = func(node, above int) {
		if s.Nodes[node].Hidden || part.None(parts[node]) {
			return
		}
		p.there[node], p.above[node] = true, above
		if above != none {
			p.kids[above] = append(p.kids[above], node)
		}
		if !holds(parts[node]) {
			return
		}
		for _, kid := range s.Nodes[node].Kids {
			visit(kid, node)
		}
	}
	visit(root, none)
	return p, api.OK
}

// holds asks a part by an assertion whether it can hold others.
func holds(p part.Part) bool {
	_, ok := p.(part.Holder)
	return ok
}

// measured is the size that a part asks for in any room; nothing, if it can't measure.
func measured(p part.Part) api.Size {
	size, e := part.Measure(p, api.Size{})
	if e != api.OK {
		return api.Size{}
	}
	return size
}

// has tells whether there is a node of a number.
func (p *plan) has(node int) bool {
	return node >= 0 && node < len(p.nodes)
}

// isRow tells whether a node is a Box that is there and can hold others.
func (p *plan) isRow(node int) bool {
	return p.there[node] && p.nodes[node].Kind == api.Box && holds(p.parts[node])
}

// kidSpans are how many columns each of a node's kids asks for.
func (p *plan) kidSpans(node int) []int {
	spans := make([]int, len(p.kids[node]))
	for i, kid := range p.kids[node] {
		spans[i] = p.nodes[kid].Span
	}
	return spans
}

// kidNeeds are what each of a node's kids needs.
func (p *plan) kidNeeds(node int) []api.Size {
	needs := make([]api.Size, len(p.kids[node]))
	for i, kid := range p.kids[node] {
		needs[i] = p.needs[kid]
	}
	return needs
}

// padOf is how far what a node holds lies within its rectangle.
func padOf(n api.Node) int {
	pad := 0
	for _, w := range n.Wraps {
		if w.Kind == api.WrapPad {
			pad += w.Number
		}
	}
	return pad
}
