package focus

import (
	"slices"

	"casement/api"
)

// namesOf is the names of nodes.
func namesOf(s api.Spec, nodes []int) []string {
	names := make([]string, len(nodes))
	for i, node := range nodes {
		names[i] = s.Nodes[node].Name
	}
	return names
}

// kept is the node of a spec's order with the last one of these names that is there, else the first one of the order.
func kept(names []string, s api.Spec) (int, bool) {
	order := orderOf(s)
	if len(order) == 0 {
		return 0, false
	}
	among := namesOf(s, order)
	for _, name := range slices.Backward(names) {
		if at := slices.Index(among, name); name != "" && at >= 0 {
			return order[at], true
		}
	}
	return order[0], true
}
