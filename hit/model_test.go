package hit

import (
	"slices"

	"casement/api"
	"casement/layout"
)

// The models go by the document's words. Of the other layers they call layout.Places alone, which the chapter's words name; how the walk goes, which path leads to a node and which points a rectangle has, they tell themselves.

func modelWalk(s api.Spec, node int) []int {
	l := []int{node}
	for _, kid := range s.Nodes[node].Kids {
		l = append(l, modelWalk(s, kid)...)
	}
	return l
}

func modelHas(r api.Rect, p api.Point) bool {
	for _, way := range [2][3]int{{p.X, r.At.X, r.Size.W}, {p.Y, r.At.Y, r.Size.H}} {
		if at, first, count := way[0], way[1], way[2]; at < first || at > first+count-1 {
			return false
		}
	}
	return true
}

func modelLies(place api.Place, p api.Point) bool {
	return place.Shown && modelHas(place.Rect, p) && modelHas(place.Clip, p)
}

// modelAll goes from the last one in the order of drawing to the first one.
func modelAll(s api.Spec, r api.Rect, p api.Point) ([]int, api.Errno) {
	places, e := layout.Places(s, r)
	if e != api.OK {
		return nil, e
	}
	return modelAmong(s, places, p), api.OK
}

func modelAmong(s api.Spec, places []api.Place, p api.Point) []int {
	var l []int
	walk := modelWalk(s, 0)
	for i := len(walk) - 1; i >= 0; i-- {
		if modelLies(places[walk[i]], p) {
			l = append(l, walk[i])
		}
	}
	return l
}

// modelMap asks for each place anew.
func modelMap(s api.Spec, r api.Rect) ([]int, api.Errno) {
	places, e := layout.Places(s, r)
	if r.Size.W*r.Size.H > 1<<18 && e != api.ErrSpec && e != api.ErrRect {
		return nil, api.ErrCell
	}
	if e != api.OK {
		return nil, e
	}
	var l []int
	for y := r.At.Y; y < r.At.Y+r.Size.H; y++ {
		for x := r.At.X; x < r.At.X+r.Size.W; x++ {
			l = append(l, append(modelAmong(s, places, at(x, y)), -1)[0])
		}
	}
	return l, api.OK
}

// modelPath looks for who holds a node, up to the root.
func modelPath(s api.Spec, node int) []int {
	var l []int
	for node >= 0 {
		l = append(l, node)
		node = slices.IndexFunc(s.Nodes, func(n api.Node) bool { return slices.Contains(n.Kids, node) })
	}
	slices.Reverse(l)
	return l
}

func modelCrossed(s api.Spec, from, to int) (left, entered []int, e api.Errno) {
	for _, node := range []int{from, to} {
		if node < -1 || node >= len(s.Nodes) {
			return nil, nil, api.ErrNode
		}
	}
	was, now := modelPath(s, from), modelPath(s, to)
	for _, node := range was {
		if !slices.Contains(now, node) {
			left = append([]int{node}, left...)
		}
	}
	for _, node := range now {
		if !slices.Contains(was, node) {
			entered = append(entered, node)
		}
	}
	return left, entered, api.OK
}
