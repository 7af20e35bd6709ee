package focus

import (
	"cmp"
	"math"
	"slices"

	"casement/api"
	"casement/part"
	"casement/tree"
	"casement/wrap"
)

// stop is a node that can be focused, and when it is its turn.
type stop struct{ node, turn int }

// orderOf is the order of the focus of a spec that may be.
func orderOf(s api.Spec) []int {
	stops := stopsOf(s)
	slices.SortStableFunc(stops, func(a, b stop) int { return cmp.Compare(a.turn, b.turn) })
	order := make([]int, len(stops))
	for i, one := range stops {
		order[i] = one.node
	}
	return order
}

// stopsOf is the nodes that can be focused, as the walk goes: it comes to each node behind the one that holds it, so it is known by then whether all above is there.
func stopsOf(s api.Spec) []stop {
	var stops []stop
	held := make([]bool, len(s.Nodes)) // by nodes that are there
	held[0] = true                     // the root needs nobody
	for node := range tree.Walk(s) {
		n := s.Nodes[node]
		p := partOf(n)
		if !held[node] || n.Hidden || part.None(p) {
			continue
		}
		if order, ok := orderIn(p); ok {
			stops = append(stops, stop{node, turnOf(order)})
		}
		if holds(p) {
			for _, kid := range n.Kids {
				held[kid] = true
			}
		}
	}
	return stops
}

// partOf is a node's part, without its text and what it holds: what it can hangs on neither, and to measure a text takes long.
func partOf(n api.Node) part.Part {
	n.Text = ""
	p, _ := wrap.Made(n, nil) // no part, if it is an error
	return p
}

// orderIn asks a part by an assertion whether it can be focused, and if so with which order.
func orderIn(p part.Part) (int, bool) {
	if _, ok := p.(part.Focuser); !ok {
		return 0, false
	}
	order, e := part.Order(p)
	if e != api.OK || order < 0 {
		return 0, false
	}
	return order, true
}

// holds asks a part by an assertion whether it can hold others.
func holds(p part.Part) bool {
	_, ok := p.(part.Holder)
	return ok
}

// turnOf is an order as it is sorted: 0 comes behind all others.
func turnOf(order int) int {
	if order == 0 {
		return math.MaxInt
	}
	return order
}

// behind is the node behind another one in an order, round and round.
func behind(order []int, node int) (int, bool, api.Errno) {
	at := slices.Index(order, node)
	switch {
	case at < 0 && node != none:
		return 0, false, api.ErrFocus
	case len(order) == 0:
		return 0, false, api.OK
	}
	return order[(at+1)%len(order)], true, api.OK // behind none, which is not found at -1, comes the first one
}
