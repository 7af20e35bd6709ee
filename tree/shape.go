package tree

import (
	"iter"
	"slices"

	"casement/api"
)

// root is the number of a spec's root.
const root = 0

// shape is the kids of each node, in memory of its own: all that a walk needs to keep.
type shape [][]int

func shapeOf(nodes []api.Node) shape {
	kids := make(shape, len(nodes))
	for node, n := range nodes {
		kids[node] = slices.Clone(n.Kids)
	}
	return kids
}

// walk goes from a node on through it and all below it; the node's own depth is 1.
func (kids shape) walk(from int) iter.Seq2[int, int] {
	return func(yield func(int, int) bool) {
		var visit func(node, depth int) bool
		visit = func(node, depth int) bool {
			if !yield(node, depth) {
				return false
			}
			for _, kid := range kids[node] {
				if !visit(kid, depth+1) {
					return false
				}
			}
			return true
		}
		visit(from, 1)
	}
}

// up goes through all below a node, and through it last.
func (kids shape) up(from int) iter.Seq[int] {
	return func(yield func(int) bool) {
		var visit func(node int) bool
		visit = func(node int) bool {
			for _, kid := range kids[node] {
				if !visit(kid) {
					return false
				}
			}
			return yield(node)
		}
		visit(from)
	}
}

// parents are the numbers of the nodes' parents; -1 of what nobody has.
func (kids shape) parents() []int {
	parents := slices.Repeat([]int{-1}, len(kids))
	for node, l := range kids {
		for _, kid := range l {
			parents[kid] = node
		}
	}
	return parents
}

// shift has the nodes from a number on be another spec's, whose own numbers go on from there.
func (kids shape) shift(from int) {
	for _, l := range kids[from:] {
		for i := range l {
			l[i] += from
		}
	}
}

func (kids shape) put(node, at, kid int) {
	kids[node] = slices.Insert(kids[node], at, kid)
}

func (kids shape) take(node, kid int) {
	kids[node] = slices.DeleteFunc(kids[node], func(one int) bool { return one == kid })
}

// pathTo is the numbers from the root to a node.
func pathTo(node int, parents []int) []int {
	var path []int
	for node >= 0 {
		path = append(path, node)
		node = parents[node]
	}
	slices.Reverse(path)
	return path
}

// numbered is the one form of what a shape makes of nodes, from one of them on.
func numbered(nodes []api.Node, kids shape, from int) api.Spec {
	numbers := make([]int, len(nodes))
	var walked []int
	for node := range kids.walk(from) {
		numbers[node] = len(walked)
		walked = append(walked, node)
	}
	s := api.Spec{Nodes: make([]api.Node, len(walked))}
	for i, node := range walked {
		n := nodes[node]
		n.Wraps = slices.Clone(n.Wraps)
		n.Kids = make([]int, len(kids[node]))
		for at, kid := range kids[node] {
			n.Kids[at] = numbers[kid]
		}
		s.Nodes[i] = n
	}
	return s
}

// settled is the one form of the whole, if that may be: whether it may, is asked of that form, as a node that was moved may have a lesser number than what holds it now.
func settled(nodes []api.Node, kids shape) (api.Spec, api.Errno) {
	s := numbered(nodes, kids, root)
	if e := Check(s); e != api.OK {
		return api.Spec{}, e
	}
	return s, api.OK
}
