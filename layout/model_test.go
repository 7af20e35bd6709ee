package layout

import (
	"slices"
	"strings"

	"casement/api"
)

// model is a spec and a rectangle by the document's words alone: it calls no other layer, and goes from each node up to the root.
type model struct {
	nodes []api.Node
	r     api.Rect
	above []int
	needs map[int]api.Size
	rects map[int]api.Rect
	great bool // a number was beyond what may be
}

func modelOf(s api.Spec, r api.Rect) *model {
	m := &model{nodes: s.Nodes, r: r, above: slices.Repeat([]int{-1}, len(s.Nodes)), needs: map[int]api.Size{}, rects: map[int]api.Rect{}}
	for node, n := range s.Nodes {
		for _, kid := range n.Kids {
			m.above[kid] = node
		}
	}
	return m
}

// modelCan is what a node's part can, and whether it is hollow.
func modelCan(n api.Node) (uint16, bool) {
	can := []uint16{0, 3, 7, 23, 33, 33, 47, 3, 2, 1, 33}[n.Kind]
	hollow := false
	for _, w := range n.Wraps {
		hollow = w.Kind == api.WrapHalf
		switch w.Kind {
		case api.WrapHide:
			can -= can & w.Mask
		case api.WrapOnly:
			can &= w.Mask
		case api.WrapFocus:
			can |= 4
		case api.WrapDrop:
			can |= 16
		case api.WrapHalf:
			can = 0
		}
	}
	return can, hollow
}

func (m *model) there(node int) bool {
	_, hollow := modelCan(m.nodes[node])
	if m.nodes[node].Hidden || hollow {
		return false
	}
	up := m.above[node]
	if up < 0 {
		return true
	}
	can, _ := modelCan(m.nodes[up])
	return m.there(up) && can&32 != 0
}

func (m *model) kids(node int) []int {
	return slices.DeleteFunc(slices.Clone(m.nodes[node].Kids), func(kid int) bool { return !m.there(kid) })
}

func modelPad(n api.Node) int {
	pad := 0
	for _, w := range n.Wraps {
		if w.Kind == api.WrapPad {
			pad += w.Number
		}
	}
	return pad
}

// modelMeasure is what a node's part measures in no room, its text being of letters, and of such from U+4E00 on, which are two cells wide.
func modelMeasure(n api.Node) api.Size {
	if can, _ := modelCan(n); can&1 == 0 {
		return api.Size{}
	}
	var s api.Size
	if n.Kind <= api.Field {
		for _, line := range strings.Split(n.Text, "\n") {
			cells := 0
			for _, letter := range line {
				cells += 1 + min(int(letter)/0x4e00, 1)
			}
			s.W, s.H = max(s.W, cells), s.H+1
		}
		s.W += []int{0, 0, 4, 1}[n.Kind]
	}
	if n.Kind == api.Spinner {
		s = api.Size{W: 1, H: 1}
	}
	s = api.Size{W: max(s.W, n.Min.W), H: max(s.H, n.Min.H)}
	if n.Max.W > 0 {
		s.W = min(s.W, n.Max.W)
	}
	if n.Max.H > 0 {
		s.H = min(s.H, n.Max.H)
	}
	for _, w := range n.Wraps {
		if w.Kind == api.WrapPad {
			s = api.Size{W: min(s.W+2*w.Number, side), H: min(s.H+2*w.Number, side)}
		}
	}
	return s
}

func (m *model) need(node int) api.Size {
	if !m.there(node) {
		return api.Size{}
	}
	if known, ok := m.needs[node]; ok {
		return known
	}
	n := m.nodes[node]
	s := modelMeasure(n)
	s = api.Size{W: max(s.W, n.Min.W), H: max(s.H, n.Min.H)}
	if len(m.kids(node)) > 0 {
		all := m.together(node)
		s = api.Size{W: max(s.W, all.W+2*modelPad(n)), H: max(s.H, all.H+2*modelPad(n))}
	}
	m.great = m.great || s.W > side || s.H > side
	m.needs[node] = s
	return s
}

func (m *model) together(node int) api.Size {
	n, kids := m.nodes[node], m.kids(node)
	var sum, most api.Size
	for i, kid := range kids {
		k := m.need(kid)
		sum = api.Size{W: sum.W + k.W, H: sum.H + k.H}
		most = api.Size{W: max(most.W, k.W), H: max(most.H, k.H)}
		if i > 0 {
			sum = api.Size{W: sum.W + n.Gap, H: sum.H + n.Gap}
		}
	}
	switch {
	case n.Kind == api.Box && n.Column:
		return api.Size{W: most.W, H: sum.H}
	case n.Kind == api.Box:
		return api.Size{W: sum.W, H: most.H}
	case n.Kind == api.Stack:
		return most
	case n.Kind == api.Grid:
		g := m.grid(node)
		return api.Size{W: lineEnd(g.widths, n.Gap), H: lineEnd(g.heights, n.Gap)}
	}
	return api.Size{}
}

// lineEnd is where the last of lines ends.
func lineEnd(l []int, gap int) int {
	end := -gap
	for _, n := range l {
		end += gap + n
	}
	return max(end, 0)
}

// modelGrid is where a Grid's kids stand, and how wide its used columns and how high its rows must be.
type modelGrid struct {
	first, last, row []int
	widths, heights  []int
}

func (m *model) grid(node int) modelGrid {
	n, kids := m.nodes[node], m.kids(node)
	columns := max(n.Columns, 1)
	var g modelGrid
	next, used := 0, 0 // cells are numbered through, row by row
	for _, kid := range kids {
		k := min(max(m.nodes[kid].Span, 1), columns)
		for next/columns != (next+k-1)/columns {
			next++
		}
		x, y := next%columns, next/columns
		g.first, g.last, g.row = append(g.first, x), append(g.last, x+k-1), append(g.row, y)
		if y == len(g.heights) {
			g.heights = append(g.heights, 0)
		}
		g.heights[y] = max(g.heights[y], m.need(kid).H)
		used, next = max(used, x+k), next+k
	}
	edges := []int{0}
	for edge := 1; edge <= used; edge++ {
		at := edges[edge-1]
		for i, kid := range kids {
			if g.last[i]+1 == edge {
				at = max(at, edges[g.first[i]]+m.need(kid).W-(g.last[i]-g.first[i])*n.Gap)
			}
		}
		edges = append(edges, at)
		g.widths = append(g.widths, at-edges[edge-1])
	}
	return g
}

// modelMost is a node's most, of one number; as much as ever, if it is any.
func modelMost(most, need int) int {
	if most == 0 {
		return 1 << 40
	}
	return max(most, need)
}

func (m *model) most(node int) api.Size {
	n, need := m.nodes[node], m.need(node)
	return api.Size{W: modelMost(n.Max.W, need.W), H: modelMost(n.Max.H, need.H)}
}

func (m *model) cut(node int, s api.Size) api.Size {
	need, most := m.need(node), m.most(node)
	return api.Size{W: min(max(s.W, need.W), most.W), H: min(max(s.H, need.H), most.H)}
}

func modelLeft(n api.Node, r api.Rect) api.Rect {
	x, w := modelLess(r.At.X, r.Size.W, modelPad(n))
	y, h := modelLess(r.At.Y, r.Size.H, modelPad(n))
	return rect(x, y, w, h)
}

// modelLess takes a pad off at both ends of a length.
func modelLess(at, length, pad int) (int, int) {
	end := at + length
	from, to := at+pad, end-pad
	if from > end {
		from = end
	}
	if to < from {
		return from, 0
	}
	return from, to - from
}

// modelLine is a thing that shares a line with others; top is far beyond all rooms, if it is any.
type modelLine struct{ least, top, grow int }

// modelShare gives each its least, and what is left round by round to those that grow.
func modelShare(l []modelLine, gap, room int) (from, length []int) {
	left := max(room-gap*max(len(l)-1, 0), 0)
	open := map[int]int{}
	for i, one := range l {
		length = append(length, one.least)
		left -= one.least
		if one.grow > 0 {
			open[i] = one.grow
		}
	}
	for left > 0 && len(open) > 0 {
		g := 0
		for _, grow := range open {
			g += grow
		}
		var full []int
		for i := range open {
			if left*l[i].grow >= g*(l[i].top-l[i].least) {
				full = append(full, i)
			}
		}
		for _, i := range full {
			length[i] = l[i].top
			left -= l[i].top - l[i].least
			delete(open, i)
		}
		if len(full) > 0 {
			continue
		}
		over := left
		for i := range open {
			length[i] += left * l[i].grow / g
			over -= left * l[i].grow / g
		}
		for i := range l {
			if open[i] > 0 && over > 0 {
				length[i]++
				over--
			}
		}
		left = 0
	}
	next := 0
	for i := range l {
		from = append(from, next)
		next += length[i] + gap
	}
	return from, length
}

// rect is where a node that is there comes to lie, from what holds it.
func (m *model) rect(node int) api.Rect {
	if known, ok := m.rects[node]; ok {
		return known
	}
	r := m.r
	if up := m.above[node]; up >= 0 {
		left := modelLeft(m.nodes[up], m.rect(up))
		i := slices.Index(m.kids(up), node)
		switch m.nodes[up].Kind {
		case api.Box:
			r = m.inBox(up, i, left)
		case api.Grid:
			r = m.inGrid(up, i, left)
		case api.Stack:
			r = api.Rect{At: left.At, Size: m.cut(node, left.Size)}
		case api.Scroll:
			r = m.inScroll(up, node, left)
		}
	}
	m.great = m.great || !modelMayBe(r)
	m.rects[node] = r
	return r
}

func (m *model) inBox(up, i int, left api.Rect) api.Rect {
	n, kids := m.nodes[up], m.kids(up)
	var l []modelLine
	for _, kid := range kids {
		one := modelLine{m.need(kid).W, m.most(kid).W, m.nodes[kid].Grow}
		if n.Column {
			one = modelLine{m.need(kid).H, m.most(kid).H, m.nodes[kid].Grow}
		}
		l = append(l, one)
	}
	cut := m.cut(kids[i], left.Size)
	if n.Column {
		from, length := modelShare(l, n.Gap, left.Size.H)
		return rect(left.At.X, left.At.Y+from[i], cut.W, length[i])
	}
	from, length := modelShare(l, n.Gap, left.Size.W)
	return rect(left.At.X+from[i], left.At.Y, length[i], cut.H)
}

func (m *model) inGrid(up, i int, left api.Rect) api.Rect {
	g, gap := m.grid(up), m.nodes[up].Gap
	lines := func(l []int, room int) (from, length []int) {
		var all []modelLine
		for _, n := range l {
			all = append(all, modelLine{n, 1 << 40, 1})
		}
		return modelShare(all, gap, room)
	}
	lefts, wide := lines(g.widths, left.Size.W)
	tops, high := lines(g.heights, left.Size.H)
	first, last, row := g.first[i], g.last[i], g.row[i]
	r := rect(left.At.X+lefts[first], left.At.Y+tops[row], lefts[last]+wide[last]-lefts[first], high[row])
	m.great = m.great || !modelMayBe(r) // grid.Rects asks ahead of the cut
	r.Size = m.cut(m.kids(up)[i], r.Size)
	return r
}

func (m *model) inScroll(up, node int, left api.Rect) api.Rect {
	size, off := m.cut(node, left.Size), m.nodes[up].Off
	if more := size.W - left.Size.W; off.X > more {
		off.X = max(more, 0)
	}
	if more := size.H - left.Size.H; off.Y > more {
		off.Y = max(more, 0)
	}
	return rect(left.At.X-off.X, left.At.Y-off.Y, size.W, size.H)
}

func modelMayBe(r api.Rect) bool {
	return r.Size.W >= 0 && r.Size.H >= 0 && r.At.X >= -side && r.At.Y >= -side && r.Size.W <= 2*side && r.Size.H <= 2*side && r.At.X <= side-r.Size.W && r.At.Y <= side-r.Size.H
}

func modelMeet(a, b api.Rect) api.Rect {
	x, y := max(a.At.X, b.At.X), max(a.At.Y, b.At.Y)
	w, h := min(a.At.X+a.Size.W, b.At.X+b.Size.W)-x, min(a.At.Y+a.Size.H, b.At.Y+b.Size.H)-y
	if w <= 0 || h <= 0 {
		return api.Rect{}
	}
	return rect(x, y, w, h)
}

func (m *model) clip(node int) api.Rect {
	up := m.above[node]
	if up < 0 {
		return m.r
	}
	return modelMeet(m.clip(up), modelLeft(m.nodes[up], m.rect(up)))
}

func modelNeed(s api.Spec) ([]api.Size, api.Errno) {
	m := modelOf(s, api.Rect{})
	var l []api.Size
	for node := range s.Nodes {
		l = append(l, m.need(node))
	}
	if m.great {
		return nil, api.ErrSize
	}
	return l, api.OK
}

func modelPlaces(s api.Spec, r api.Rect) ([]api.Place, api.Errno) {
	if _, e := modelNeed(s); e != api.OK {
		return nil, e
	}
	m := modelOf(s, r)
	var l []api.Place
	for node := range s.Nodes {
		p := api.Place{Node: node}
		if m.there(node) {
			p.Rect, p.Clip = m.rect(node), m.clip(node)
			p.Shown = modelMeet(p.Rect, p.Clip) != api.Rect{}
		}
		l = append(l, p)
	}
	if m.great {
		return nil, api.ErrSize
	}
	return l, api.OK
}

func modelBounds(s api.Spec, node int, along bool) ([]api.Bound, int, api.Errno) {
	m := modelOf(s, api.Rect{})
	if can, _ := modelCan(s.Nodes[node]); s.Nodes[node].Kind != api.Box || !m.there(node) || can&32 == 0 {
		return nil, 0, api.ErrNone
	}
	if _, e := modelNeed(s); e != api.OK {
		return nil, 0, e
	}
	var l []api.Bound
	kids := m.kids(node)
	for i, kid := range kids {
		ways := []int{m.need(kid).W, m.need(kid).H}
		if s.Nodes[node].Column {
			slices.Reverse(ways)
		}
		if !along {
			l = append(l, api.Bound{A: 0, B: 1, Far: ways[1]})
			continue
		}
		l = append(l, api.Bound{A: 2 * i, B: 2*i + 1, Far: ways[0]})
		if i+1 < len(kids) {
			l = append(l, api.Bound{A: 2*i + 1, B: 2*i + 2, Far: s.Nodes[node].Gap})
		}
	}
	if !along {
		return l, min(2*len(kids), 2), api.OK
	}
	return l, 2 * len(kids), api.OK
}

func modelFits(s api.Spec, l []api.Place) (int, api.Errno) {
	if _, e := modelNeed(s); e != api.OK {
		return 0, e
	}
	m := modelOf(s, api.Rect{})
	for node, p := range l {
		if !m.fits(node, p, l) {
			return node, api.OK
		}
	}
	return -1, api.OK
}

func (m *model) fits(node int, p api.Place, l []api.Place) bool {
	if !m.there(node) {
		return p == api.Place{Node: node}
	}
	r, need, most, up := p.Rect, m.need(node), m.most(node), m.above[node]
	if !modelMayBe(r) || r.Size.W < need.W || r.Size.H < need.H {
		return false
	}
	if up < 0 {
		return true
	}
	if r.Size.W > most.W || r.Size.H > most.H {
		return false
	}
	if m.nodes[up].Kind == api.Scroll {
		return true
	}
	in := modelLeft(m.nodes[up], l[up].Rect)
	for _, outside := range []int{in.At.X - r.At.X, in.At.Y - r.At.Y, r.At.X + r.Size.W - in.At.X - in.Size.W, r.At.Y + r.Size.H - in.At.Y - in.Size.H} {
		if outside > 0 {
			return false
		}
	}
	if m.nodes[up].Kind == api.Stack {
		return true
	}
	for _, kid := range m.kids(up) {
		if kid == node {
			return true
		}
		if other := l[kid].Rect; modelMayBe(other) && modelMeet(r, other) != (api.Rect{}) {
			return false
		}
	}
	return true
}
