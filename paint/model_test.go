package paint

import (
	"slices"
	"strings"

	"casement/api"
	"casement/layout"
)

// The models go by the document's words. Of the other layers they call layout.Places alone, which the chapter's words name; what a node's part can and paints, and how it looks, they tell themselves.

// modelWalk is the numbers from a node on as the walk goes.
func modelWalk(s api.Spec, node int) []int {
	l := []int{node}
	for _, kid := range s.Nodes[node].Kids {
		l = append(l, modelWalk(s, kid)...)
	}
	return l
}

func modelOrder(s api.Spec, r api.Rect) ([]int, api.Errno) {
	places, e := layout.Places(s, r)
	if e != api.OK {
		return nil, e
	}
	return slices.DeleteFunc(modelWalk(s, 0), func(node int) bool { return !places[node].Shown }), api.OK
}

// modelPaints tells whether a node's part can paint.
func modelPaints(n api.Node) bool {
	can := slices.Contains([]uint8{1, 2, 3, 6, 7, 8}, n.Kind)
	for _, w := range n.Wraps {
		hidden := w.Kind == api.WrapHide && w.Mask/2%2 == 1
		left := w.Kind == api.WrapOnly && w.Mask/2%2 == 0
		can = can && !hidden && !left && w.Kind != api.WrapHalf
	}
	return can
}

func modelHolds(rule api.Rule, n api.Node, state uint8) bool {
	for _, bit := range []uint8{1, 2, 4, 8} {
		if rule.State/bit%2 == 1 && state/bit%2 == 0 {
			return false
		}
	}
	return (rule.Kind == 0 || rule.Kind == n.Kind) && (rule.Class == "" || slices.Contains(strings.Fields(n.Class), rule.Class))
}

// modelWeight is greater for stronger rules, the number of the rule parting equal ones.
func modelWeight(rule api.Rule, number int) int {
	weight := number
	for _, bit := range []uint8{1, 2, 4, 8} {
		weight += 1000000 * int(rule.State/bit%2)
	}
	if rule.Class != "" {
		weight += 100000
	}
	if rule.Kind != 0 {
		weight += 10000
	}
	return weight
}

func modelLook(n api.Node, rules []api.Rule, state uint8) api.Look {
	var look api.Look
	best := map[uint8]int{1: -1, 2: -1, 4: -1, 8: -1}
	for number, rule := range rules {
		if !modelHolds(rule, n, state) {
			continue
		}
		for _, thing := range []uint8{1, 2, 4, 8} {
			weight := modelWeight(rule, number)
			if rule.Look.Has/thing%2 == 0 || weight < best[thing] {
				continue
			}
			best[thing] = weight
			look.Has |= thing
			switch thing {
			case 1:
				look.Colour = rule.Look.Colour
			case 2:
				look.Back = rule.Look.Back
			case 4:
				look.Border = rule.Look.Border
			case 8:
				look.Pad = rule.Look.Pad
			}
		}
	}
	return look
}

func modelLooks(s api.Spec, rules []api.Rule, states []uint8) []api.Look {
	all := append(slices.Clone(states), make([]uint8, len(s.Nodes))...)
	var l []api.Look
	for node, n := range s.Nodes {
		l = append(l, modelLook(n, rules, all[node]))
	}
	return l
}

// modelLess is a rectangle less a number on all sides, and whether something is left.
func modelLess(r api.Rect, by int) (api.Rect, bool) {
	r = rect(r.At.X+by, r.At.Y+by, r.Size.W-2*by, r.Size.H-2*by)
	return r, r.Size.W > 0 && r.Size.H > 0
}

func modelText(n api.Node) string {
	switch n.Kind {
	case api.Label, api.Field:
		return n.Text
	case api.Button:
		return "[ " + n.Text + " ]"
	case api.Spinner:
		return "*"
	}
	return ""
}

// modelStrokes is what a node that paints draws in a rectangle, wrappers and all.
func modelStrokes(n api.Node, r api.Rect, look api.Look, node int) []api.Stroke {
	pads := 0
	for _, w := range n.Wraps {
		if w.Kind == api.WrapPad {
			pads += w.Number
		}
	}
	r, some := modelLess(r, pads)
	if !some {
		return nil
	}
	var l []api.Stroke
	colour, back, within := white, none, 0
	if look.Has/1%2 == 1 {
		colour = look.Colour
	}
	if look.Has/2%2 == 1 {
		back = look.Back
		l = append(l, api.Stroke{Kind: api.Fill, Rect: r, Colour: back, Node: node})
	}
	if look.Has/4%2 == 1 && look.Border {
		within++
		l = append(l, api.Stroke{Kind: api.Frame, Rect: r, Colour: colour, Node: node})
	}
	if look.Has/8%2 == 1 {
		within += look.Pad
	}
	if left, some := modelLess(r, within); some && modelText(n) != "" {
		l = append(l, api.Stroke{Kind: api.Write, Rect: left, Colour: colour, Back: back, Text: modelText(n), Node: node})
	}
	return l
}

// modelPieces are the pieces of all nodes, by their numbers.
func modelPieces(s api.Spec, r api.Rect, rules []api.Rule, states []uint8) ([][]api.Stroke, api.Errno) {
	pieces := make([][]api.Stroke, len(s.Nodes))
	places, e := layout.Places(s, r)
	if e != api.OK {
		return pieces, e
	}
	looks := modelLooks(s, rules, states)
	for node, n := range s.Nodes {
		place := places[node]
		if !place.Shown || !modelPaints(n) {
			continue
		}
		if l := modelStrokes(n, place.Rect, looks[node], node); len(l) > 0 {
			l = slices.Insert(l, 0, api.Stroke{Kind: api.Clip, Rect: place.Clip, Node: node})
			pieces[node] = append(l, api.Stroke{Kind: api.Open, Node: node})
		}
	}
	return pieces, api.OK
}
