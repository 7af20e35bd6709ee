package paint

import (
	"slices"
	"strings"
	"testing"

	"casement/api"
	"casement/layout"
	"casement/list"
	"casement/style"
)

// P14.2, P14.3, P14.5: MaxNodes nodes, each of which draws as much as a node can.
func TestMostNodes(t *testing.T) {
	s := stack(slices.Repeat([]api.Spec{button("ok")}, api.MaxNodes-1)...)
	slices.Reverse(s.Nodes[0].Kids)
	r := rect(-5, -5, 20, 9)
	states := make([]uint8, api.MaxNodes)
	for i := range states {
		states[i] = uint8(i)
	}
	drawn, e := Draw(s, r, style.Usual(), states)
	if e != api.OK || len(drawn) != 5*(api.MaxNodes-1) || list.Check(drawn) != api.OK {
		t.Fatalf("%d strokes, %d, %d", len(drawn), e, list.Check(drawn))
	}
	order, e := Order(s, r)
	if want := append([]int{0}, s.Nodes[0].Kids...); !slices.Equal(order, want) || e != api.OK {
		t.Fatalf("Order: %v, %d", order, e)
	}
	for i := 0; i < api.MaxNodes-1; i += 61 {
		node := order[i+1]
		if one, e := Part(s, r, style.Usual(), states, node); !slices.Equal(one, drawn[5*i:5*i+5]) || e != api.OK {
			t.Errorf("Part %d: %v, %d; %v", node, one, e, drawn[5*i:5*i+5])
		}
	}
	if l, e := Looks(s, style.Usual(), states); len(l) != api.MaxNodes || e != api.OK {
		t.Errorf("Looks: %d, %d", len(l), e)
	}
	if _, e := Draw(s, r, style.Usual(), append(states, 0)); e != api.ErrMany {
		t.Errorf("Draw with MaxNodes + 1 states: %d", e)
	}
	s.Nodes = append(s.Nodes, api.Node{Kind: api.Label})
	s.Nodes[0].Kids = append(s.Nodes[0].Kids, api.MaxNodes)
	if _, e := Draw(s, r, style.Usual(), nil); e != api.ErrSpec {
		t.Errorf("Draw of MaxNodes + 1 nodes: %d", e)
	}
}

// P14.3: as deep as nodes may lie, each within the pads of all above it.
func TestDeepest(t *testing.T) {
	s := label("a")
	for range api.MaxDepth - 1 {
		s = wrapped(scroll(0, 0, s), pad(1))
	}
	r := rect(0, 0, 2*api.MaxDepth, 2*api.MaxDepth)
	back := theme(api.Rule{Look: backed(red)})
	drawn, e := Draw(s, r, back, nil)
	if e != api.OK || len(drawn) != 3*(api.MaxDepth-1)+4 {
		t.Fatalf("%d strokes, %d", len(drawn), e)
	}
	for depth := range api.MaxDepth - 1 {
		room := rect(depth, depth, 2*(api.MaxDepth-depth), 2*(api.MaxDepth-depth))
		inside := rect(depth+1, depth+1, room.Size.W-2, room.Size.H-2)
		want := strokes(api.Stroke{Kind: api.Clip, Rect: room, Node: depth}, api.Stroke{Kind: api.Fill, Rect: inside, Colour: red, Node: depth}, open(depth))
		if got := drawn[3*depth : 3*depth+3]; !slices.Equal(got, want) {
			t.Errorf("at %d: %v; %v", depth, got, want)
		}
	}
}

// P14.3: the longest text, which is written as it is; a Button's then without brackets.
func TestLongestText(t *testing.T) {
	text := strings.Repeat(strings.Repeat("a", 15)+"\n", api.MaxText/16)
	for _, kind := range []uint8{api.Label, api.Button} {
		drawn, e := Draw(scroll(0, 0, one(kind, text)), rect(0, 0, 9, 9), nil, nil)
		if e != api.OK || len(drawn) != 3 || drawn[1].Text != text || list.Check(drawn) != api.OK {
			t.Errorf("%d: %d strokes, %d", kind, len(drawn), e)
		}
	}
}

// P14.2, P14.3: the greatest rectangle, and such as lie at the ends.
func TestGreatestRectangles(t *testing.T) {
	for _, r := range []api.Rect{rect(-side, -side, 2*side, 2*side), rect(-side, -side, 1, 1), rect(side-1, side-1, 1, 1), rect(-side, side-1, 2*side, 1)} {
		s := one(api.Canvas, "")
		draws(t, "a Canvas", s, r, theme(api.Rule{Look: backed(blue)}), nil,
			api.Stroke{Kind: api.Clip, Rect: r}, api.Stroke{Kind: api.Fill, Rect: r, Colour: blue}, open(0))
		orders(t, "a Canvas", s, r, 0)
	}
	// nodes at the last place, and beyond it
	edge := rect(side-2, 0, 2, 1)
	draws(t, "at the last place", box(0, label("a"), label("b")), edge, nil, nil,
		clip(1, side-2, 0, 2, 1), write(1, white, none, "a", side-2, 0, 1, 1), open(1),
		clip(2, side-2, 0, 2, 1), write(2, white, none, "b", side-1, 0, 1, 1), open(2))
	if _, e := layout.Places(pair(), edge); e != api.ErrSize {
		t.Fatal(e)
	}
	if l, e := Draw(pair(), edge, nil, nil); len(l) > 0 || e != api.ErrSize {
		t.Errorf("Draw beyond the last place: %v, %d", l, e)
	}
	if l, e := Part(pair(), edge, nil, nil, 1); len(l) > 0 || e != api.ErrSize {
		t.Errorf("Part beyond the last place: %v, %d", l, e)
	}
	if l, e := Order(pair(), edge); len(l) > 0 || e != api.ErrSize {
		t.Errorf("Order beyond the last place: %v, %d", l, e)
	}
}
