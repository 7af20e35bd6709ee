package hit

import (
	"casement/api"
	"casement/tree"
)

// pathTo is the numbers from the root to a node; the way to none has no nodes.
func pathTo(s api.Spec, node int) ([]int, api.Errno) {
	if node == none {
		return nil, tree.Check(s)
	}
	return tree.Path(s, node)
}

// together is how many nodes two paths have in common: they part but once, as each node has one parent.
func together(a, b []int) int {
	shorter := min(len(a), len(b))
	for i := range shorter {
		if a[i] != b[i] {
			return i
		}
	}
	return shorter
}
