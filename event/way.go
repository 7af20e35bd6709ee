package event

import (
	"casement/api"
	"casement/part"
	"casement/tree"
)

// The phases of an event's way.
const (
	down uint8 = 1 + iota
	target
	up
)

// unstopped is the number of the stop at which an event is stopped, if it goes its way to the end.
const unstopped = -1

// thereOf is a path as far as its nodes are there: where one is not, none below it is.
func thereOf(s api.Spec, path []int) ([]int, api.Errno) {
	parts, e := tree.Made(alone(s, path))
	if e != api.OK {
		return nil, e
	}
	for i, node := range path {
		switch {
		case s.Nodes[node].Hidden || part.None(parts[i]):
			return path[:i], api.OK
		case part.Can(parts[i])&api.Holds == 0:
			return path[:i+1], api.OK
		}
	}
	return path, api.OK
}

// alone is a path's nodes as a tree of their own, without their texts: what they can hangs on neither these nor on other nodes, and to measure texts takes long.
func alone(s api.Spec, path []int) api.Spec {
	nodes := make([]api.Node, len(path))
	for i, node := range path {
		nodes[i] = s.Nodes[node]
		nodes[i].Text, nodes[i].Kids = "", nil
		if i > 0 {
			nodes[i-1].Kids = []int{i}
		}
	}
	return api.Spec{Nodes: nodes}
}

// stopsOf is the way to a node by those of its path that are there.
func stopsOf(there []int, node int) []api.Visit {
	above := there
	if last := len(there) - 1; last >= 0 && there[last] == node {
		above = there[:last]
	}
	var stops []api.Visit
	for _, one := range above {
		stops = append(stops, api.Visit{Node: one, Phase: down})
	}
	if len(above) < len(there) {
		stops = append(stops, api.Visit{Node: node, Phase: target})
	}
	for i := len(above) - 1; i >= 0; i-- {
		stops = append(stops, api.Visit{Node: above[i], Phase: up})
	}
	return stops
}

// handlerMayBe tells whether a handler may be, but for its node, which hangs on a spec.
func handlerMayBe(h api.Handler) bool {
	return isKind(h.Kind) && within(int(h.Phase), int(down), int(up)) && len(h.Tell) <= api.MaxName
}

// tellsOf is what handlers tell of a kind of events on a way, and the number of the stop at which one of them stops it.
func tellsOf(l []api.Handler, kind uint8, way []api.Visit) ([]string, int) {
	var told []string
	for i, visit := range way {
		stopped := false // behind the stop, not at once: all that are there tell
		for _, h := range l {
			if h.Node == visit.Node && h.Phase == visit.Phase && h.Kind == kind {
				told = append(told, h.Tell)
				stopped = stopped || h.Stop
			}
		}
		if stopped {
			return told, i
		}
	}
	return told, unstopped
}
