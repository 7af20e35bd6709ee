package focus

import (
	"slices"
	"strings"
	"testing"

	"casement/api"
)

// most is as many nodes as may be, all but the root Buttons, whose orders go by 0, 1, 2 and below 0.
func most() api.Spec {
	s := stack(slices.Repeat([]api.Spec{button("")}, api.MaxNodes-1)...)
	slices.Reverse(s.Nodes[0].Kids)
	for i := range s.Nodes[1:] {
		s.Nodes[1+i].Order = i%4 - 1
	}
	return s
}

// P18.1, P18.2, P18.6: MaxNodes nodes.
func TestMostNodes(t *testing.T) {
	s := most()
	var want []int
	for _, order := range []int{1, 2, 0} {
		for node := api.MaxNodes - 1; node > 0; node-- {
			if s.Nodes[node].Order == order {
				want = append(want, node)
			}
		}
	}
	order, e := Order(s, wide())
	if !slices.Equal(order, want) || e != api.OK {
		t.Fatalf("Order: %v, %d; %v", order, e, want)
	}
	for i := 0; i < len(want); i += 37 {
		node, ahead, behind := want[i], want[(i+len(want)-1)%len(want)], want[(i+1)%len(want)]
		if to, is, e := Next(s, wide(), node); to != behind || !is || e != api.OK {
			t.Errorf("Next %d: %d, %v, %d; %d", node, to, is, e, behind)
		}
		if to, is, e := Back(s, wide(), node); to != ahead || !is || e != api.OK {
			t.Errorf("Back %d: %d, %v, %d; %d", node, to, is, e, ahead)
		}
		if to, is, e := Toward(s, wide(), node, 0); to != 0 || is || e != api.OK { // all lie over one another
			t.Errorf("Toward %d: %d, %v, %d", node, to, is, e)
		}
	}
}

// P18.1 to P18.4: one node more.
func TestOneNodeMore(t *testing.T) {
	few, s := button(""), most()
	s.Nodes = append(s.Nodes, api.Node{Kind: api.Button})
	s.Nodes[0].Kids = append(s.Nodes[0].Kids, api.MaxNodes)
	if l, e := Order(s, wide()); l != nil || e != api.ErrSpec {
		t.Errorf("Order: %v, %d", l, e)
	}
	for name, call := range map[string]func() (int, bool, api.Errno){
		"Next":        func() (int, bool, api.Errno) { return Next(s, wide(), -1) },
		"Back":        func() (int, bool, api.Errno) { return Back(s, wide(), 1) },
		"Toward":      func() (int, bool, api.Errno) { return Toward(s, wide(), 1, 0) },
		"Keep of it":  func() (int, bool, api.Errno) { return Keep(s, few, wide(), 1) },
		"Keep for it": func() (int, bool, api.Errno) { return Keep(few, s, wide(), 0) },
	} {
		if to, is, e := call(); to != 0 || is || e != api.ErrSpec {
			t.Errorf("%s: %d, %v, %d", name, to, is, e)
		}
	}
}

// P18.3: the nearest of as many as may be.
func TestNearestOfMost(t *testing.T) {
	const columns = 31
	s := grids(columns, slices.Repeat([]api.Spec{button("")}, columns*33)...) // each 4 wide and 1 high
	r := rect(-9, -9, 4*columns, 33)
	number := func(x, y int) int { return 1 + x + columns*y }
	for way, to := range []int{number(14, 20), number(16, 20), number(15, 19), number(15, 21)} {
		if got, is, e := Toward(s, r, number(15, 20), uint8(way)); got != to || !is || e != api.OK {
			t.Errorf("by %d: %d, %v, %d; %d", way, got, is, e, to)
		}
	}
}

// P18.4: as many nodes as may be, the first one ahead, or none of all, still there.
func TestKeepOfMost(t *testing.T) {
	s := most()
	s.Nodes[api.MaxNodes-3].Name = "a" // 1021: of the order -1 + 1020 % 4
	order, _ := Order(s, wide())
	first := order[0]
	s.Nodes[first].Name = "b"
	for i, node := range order[1:] {
		s.Nodes[node].Name = strings.Repeat("n", 1+i%60) + string(rune('0'+i/60))
	}
	last := order[len(order)-1]
	if to, is, e := Keep(s, box(button("x"), button("b")), wide(), last); to != 2 || !is || e != api.OK {
		t.Errorf("the first one ahead: %d, %v, %d", to, is, e)
	}
	if to, is, e := Keep(s, box(button("x"), button("a")), wide(), last); to != 1 || !is || e != api.OK {
		t.Errorf("none ahead: %d, %v, %d", to, is, e)
	}
	if to, is, e := Keep(s, s, wide(), last); to != last || !is || e != api.OK {
		t.Errorf("itself: %d, %v, %d", to, is, e)
	}
}

// P18.1, P18.2: as deep as nodes may lie, and one deeper.
func TestDeepest(t *testing.T) {
	s := button("")
	for range api.MaxDepth - 1 {
		s = scroll(0, 0, s)
	}
	order, e := Order(s, wide())
	if len(order) != api.MaxDepth || !slices.IsSorted(order) || e != api.OK {
		t.Errorf("%v, %d", order, e)
	}
	last := api.MaxDepth - 1
	if to, is, e := Next(s, wide(), last); to != 0 || !is || e != api.OK {
		t.Errorf("Next of the deepest: %d, %v, %d", to, is, e)
	}
	if to, is, e := Back(s, wide(), -1); to != last || !is || e != api.OK {
		t.Errorf("Back: %d, %v, %d", to, is, e)
	}
	if l, e := Order(gone(s, last/2), wide()); len(l) != last/2 || e != api.OK {
		t.Errorf("with one that is hidden: %v, %d", l, e)
	}
	if l, e := Order(scroll(0, 0, s), wide()); l != nil || e != api.ErrSpec {
		t.Errorf("one deeper: %v, %d", l, e)
	}
}

// P18.3: from end to end of all places.
func TestFarthest(t *testing.T) {
	all := rect(-side, -side, 2*side, 2*side)
	end := 2*side - 1
	corners := board([5]int{0, 0, 1, 1, 0}, [5]int{side - 1, 0, 1, 1, 0}, [5]int{side - 1, side - 1, 1, 1, 0})
	toward(t, "corners", corners, all, 0, right, 1)
	toward(t, "corners", corners, all, 2, above, 1)
	toward(t, "corners", corners, all, 2, left, 0)
	// a Box's kids can be as far away as this: each one grows to half of the room
	s := box(with(one(api.Field), func(n *api.Node) { n.Grow = 1 }), with(one(api.Field), func(n *api.Node) { n.Grow = 1 }))
	if to, is, e := Toward(s, all, 1, right); to != 2 || !is || e != api.OK {
		t.Errorf("halves: %d, %v, %d", to, is, e)
	}
	if to, is, e := Toward(s, all, 2, left); to != 1 || !is || e != api.OK {
		t.Errorf("halves: %d, %v, %d", to, is, e)
	}
	// as far away as the last place is from the first one
	growing := with(thing(0, 0), func(n *api.Node) { n.Grow = 1 })
	far := columns(box(button("a"), growing), growing, box(growing, button("b")))
	r := rect(-side, -side, end+1, end+1)
	for _, x := range [][3]int{{2, 1, 7}, {2, 3, 7}, {7, 0, 2}, {7, 2, 2}} {
		if to, is, e := Toward(far, r, x[0], uint8(x[1])); to != x[2] || !is || e != api.OK {
			t.Errorf("from %d by %d: %d, %v, %d", x[0], x[1], to, is, e)
		}
	}
}

// P18.1: long texts count for nothing here, but for what they need.
func TestLongTexts(t *testing.T) {
	long := strings.Repeat(strings.Repeat("a", 63)+"\n", api.MaxText/64)
	s := stack(slices.Repeat([]api.Spec{of(api.Node{Kind: api.Field, Text: long})}, 40)...)
	if l, e := Order(s, wide()); len(l) != 40 || e != api.OK {
		t.Errorf("%v, %d", l, e)
	}
	more := changed(s, 40, func(n *api.Node) { n.Text += "a" })
	if l, e := Order(more, wide()); l != nil || e != api.ErrSpec {
		t.Errorf("one byte more: %v, %d", l, e)
	}
}
