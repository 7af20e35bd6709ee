package tree

import (
	"slices"
	"unicode/utf8"

	"casement/api"
	"casement/part"
	"casement/wrap"
)

// mayBe goes through the nodes by their numbers: as kids have greater ones than what holds them, all that a node hangs on was seen ahead of it.
func mayBe(s api.Spec) bool {
	if len(s.Nodes) < 1 || len(s.Nodes) > api.MaxNodes {
		return false
	}
	depths := make([]int, len(s.Nodes)) // 0: nobody has it so far
	depths[root] = 1
	for node, n := range s.Nodes {
		depth := depths[node]
		if depth < 1 || depth > api.MaxDepth {
			return false
		}
		for _, kid := range n.Kids {
			if kid <= node || kid >= len(s.Nodes) || depths[kid] != 0 {
				return false
			}
			depths[kid] = depth + 1
		}
		if !nodeMayBe(n) {
			return false
		}
	}
	return true
}

// nodeMayBe asks part and wrap, which would make the node. Its text is asked here, as part would measure it, which takes long; of its kids their number alone counts.
func nodeMayBe(n api.Node) bool {
	if len(n.Text) > api.MaxText || !utf8.ValidString(n.Text) {
		return false
	}
	n.Text = ""
	if _, e := part.Make(n, make([]part.Part, len(n.Kids))); e != api.OK {
		return false
	}
	_, e := wrap.Says(0, n.Wraps)
	return e == api.OK
}

// checkNodes asks for a spec, then for nodes of it.
func checkNodes(s api.Spec, nodes ...int) api.Errno {
	if e := Check(s); e != api.OK {
		return e
	}
	for _, node := range nodes {
		if node < 0 || node >= len(s.Nodes) {
			return api.ErrNode
		}
	}
	return api.OK
}

// sameNode holds nodes against each other field by field: they have lists, so the language does not compare them.
func sameNode(a, b api.Node) bool {
	return a.Kind == b.Kind &&
		a.Name == b.Name && a.Class == b.Class && a.Text == b.Text &&
		a.Min == b.Min && a.Max == b.Max &&
		a.Grow == b.Grow && a.Order == b.Order &&
		a.Column == b.Column && a.Columns == b.Columns && a.Span == b.Span && a.Gap == b.Gap &&
		a.Off == b.Off && a.Hidden == b.Hidden &&
		slices.Equal(a.Wraps, b.Wraps) && slices.Equal(a.Kids, b.Kids)
}
