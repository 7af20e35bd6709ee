package focus

import (
	"slices"

	"casement/api"
	"casement/layout"
)

// The models go by the document's words. Of the other layers they call layout.Places alone, which the chapter's words name: what a node's part can, who is there and how the walk goes, they tell themselves.

// modelPart is what of a node's part counts here.
type modelPart struct {
	focus, hold, hollow bool
	order               int
}

func modelPartOf(n api.Node) modelPart {
	p := modelPart{focus: slices.Contains([]uint8{2, 3, 6}, n.Kind), hold: slices.Contains([]uint8{4, 5, 6, 10}, n.Kind), order: n.Order}
	for _, w := range n.Wraps {
		p.hollow = w.Kind == 7
		focuses, holds := w.Mask/4%2 == 1, w.Mask/32%2 == 1
		switch w.Kind {
		case 1:
			p.focus, p.hold = p.focus && !focuses, p.hold && !holds
		case 2:
			p.focus, p.hold = p.focus && focuses, p.hold && holds
		case 5:
			p.focus, p.order = true, w.Number
		case 7:
			p.focus, p.hold = false, false
		}
	}
	return p
}

// modelThere asks whether a node is there, and then for what holds it.
func modelThere(s api.Spec, node int) bool {
	n := s.Nodes[node]
	if n.Hidden || modelPartOf(n).hollow {
		return false
	}
	for up, holder := range s.Nodes {
		if slices.Contains(holder.Kids, node) {
			return modelPartOf(holder).hold && modelThere(s, up)
		}
	}
	return true
}

// modelFocus tells whether a node can be focused.
func modelFocus(s api.Spec, node int) bool {
	p := modelPartOf(s.Nodes[node])
	return modelThere(s, node) && p.focus && p.order >= 0
}

func modelWalk(s api.Spec, node int) []int {
	l := []int{node}
	for _, kid := range s.Nodes[node].Kids {
		l = append(l, modelWalk(s, kid)...)
	}
	return l
}

// modelOrder goes through the walk again and again, once for each order.
func modelOrder(s api.Spec) []int {
	walk := slices.DeleteFunc(modelWalk(s, 0), func(node int) bool { return !modelFocus(s, node) })
	orderOf := func(node int) int { return modelPartOf(s.Nodes[node]).order }
	var l []int
	for last := 0; ; {
		next := 0
		for _, node := range walk {
			if order := orderOf(node); order > last && (next == 0 || order < next) {
				next = order
			}
		}
		for _, node := range walk {
			if orderOf(node) == next {
				l = append(l, node)
			}
		}
		if next == 0 {
			return l
		}
		last = next
	}
}

// modelStep goes by places in the order, 1 on or 1 back.
func modelStep(s api.Spec, r api.Rect, node, by int) (int, bool, api.Errno) {
	if node < -1 || node >= len(s.Nodes) {
		return 0, false, api.ErrNode
	}
	if _, e := layout.Places(s, r); e != api.OK {
		return 0, false, e
	}
	if node >= 0 && !modelFocus(s, node) {
		return 0, false, api.ErrFocus
	}
	l := modelOrder(s)
	if len(l) == 0 {
		return 0, false, api.OK
	}
	at := slices.Index(l, node) + by
	switch {
	case node == -1 && by > 0, at == len(l):
		at = 0
	case node == -1, at < 0:
		at = len(l) - 1
	}
	return l[at], true, api.OK
}

func modelToward(s api.Spec, r api.Rect, node int, way uint8) (int, bool, api.Errno) {
	switch {
	case node < 0 || node >= len(s.Nodes):
		return 0, false, api.ErrNode
	case way > 3:
		return 0, false, api.ErrArg
	}
	places, e := layout.Places(s, r)
	switch {
	case e != api.OK:
		return 0, false, e
	case !modelFocus(s, node):
		return 0, false, api.ErrFocus
	}
	l := modelOrder(s)
	l = slices.DeleteFunc(l, func(other int) bool {
		return other == node || !places[other].Shown || !modelLies(places[node].Rect, places[other].Rect, way)
	})
	for sum := range 1 << 20 { // no two middles are farther apart
		for _, other := range l {
			if modelSum(places[node].Rect, places[other].Rect, way) == sum {
				return other, true, api.OK
			}
		}
		if len(l) == 0 {
			break
		}
	}
	return 0, false, api.OK
}

func modelLies(a, b api.Rect, way uint8) bool {
	beyond := [4]int{
		a.At.X - (b.At.X + b.Size.W),
		b.At.X - (a.At.X + a.Size.W),
		a.At.Y - (b.At.Y + b.Size.H),
		b.At.Y - (a.At.Y + a.Size.H),
	}
	return beyond[way] >= 0
}

func modelSum(a, b api.Rect, way uint8) int {
	x := 2*a.At.X + a.Size.W - (2*b.At.X + b.Size.W)
	y := 2*a.At.Y + a.Size.H - (2*b.At.Y + b.Size.H)
	x, y = max(x, -x), max(y, -y)
	return []int{x + 2*y, y + 2*x}[way/2]
}

func modelKeep(old, now api.Spec, r api.Rect, node int) (int, bool, api.Errno) {
	if node < -1 || node >= len(old.Nodes) {
		return 0, false, api.ErrNode
	}
	for _, s := range []api.Spec{old, now} {
		if _, e := layout.Places(s, r); e != api.OK {
			return 0, false, e
		}
	}
	if node == -1 || !modelFocus(old, node) {
		return 0, false, api.OK
	}
	l := modelOrder(now)
	if to, ok := modelNamed(now, l, old.Nodes[node].Name); ok {
		return to, true, api.OK
	}
	was := modelOrder(old)
	for i := slices.Index(was, node) - 1; i >= 0; i-- {
		if to, ok := modelNamed(now, l, old.Nodes[was[i]].Name); ok {
			return to, true, api.OK
		}
	}
	if len(l) == 0 {
		return 0, false, api.OK
	}
	return l[0], true, api.OK
}

// modelNamed is the first one of a name, which is not empty.
func modelNamed(s api.Spec, l []int, name string) (int, bool) {
	for _, node := range l {
		if s.Nodes[node].Name == name && name != "" {
			return node, true
		}
	}
	return 0, false
}
