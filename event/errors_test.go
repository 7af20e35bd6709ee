package event

import (
	"math"
	"slices"
	"strings"
	"testing"

	"casement/api"
)

// asked is an argument, and what is wrong with it.
type asked[T any] struct {
	value T
	e     api.Errno
}

func firstOf(l ...api.Errno) api.Errno {
	for _, e := range l {
		if e != api.OK {
			return e
		}
	}
	return api.OK
}

// specs are such as may be, all of four nodes, and such as may not.
func specs() []asked[api.Spec] {
	wrong := func(node int, change func(n *api.Node)) asked[api.Spec] {
		return asked[api.Spec]{changed(tee(), node, change), api.ErrSpec}
	}
	return []asked[api.Spec]{
		{tee(), api.OK},
		{hidden(tee(), 0), api.OK},
		{hidden(tee(), 1, 2, 3), api.OK},
		{wrapped(tee(), 0, half()), api.OK},
		{wrapped(tee(), 2, half()), api.OK},
		{nest(), api.OK},
		{api.Spec{}, api.ErrSpec},
		{api.Spec{Nodes: []api.Node{}}, api.ErrSpec},
		{one(0), api.ErrSpec},
		{one(11), api.ErrSpec},
		{of(api.Node{Kind: api.Button}, label(), label(), label()), api.ErrSpec},
		{scrolled(label(), label(), label()), api.ErrSpec},
		wrong(0, func(n *api.Node) { n.Kids = []int{2} }),
		wrong(0, func(n *api.Node) { n.Kids = []int{2, 1, 1} }),
		wrong(0, func(n *api.Node) { n.Kids = []int{2, 1, 3} }),
		wrong(0, func(n *api.Node) { n.Kids = []int{2, 1, 0} }),
		wrong(0, func(n *api.Node) { n.Kids = []int{2, 1, 4} }),
		wrong(0, func(n *api.Node) { n.Kids = []int{2, 1, -1} }),
		wrong(1, func(n *api.Node) { n.Name = "\xff" }),
		wrong(1, func(n *api.Node) { n.Name = strings.Repeat("n", 65) }),
		wrong(1, func(n *api.Node) { n.Text = strings.Repeat("n", api.MaxText+1) }),
		wrong(2, func(n *api.Node) { n.Text = "\xff" }),
		wrong(2, func(n *api.Node) { n.Min.W = -1 }),
		wrong(3, func(n *api.Node) { n.Order = -2 }),
		wrong(3, func(n *api.Node) { n.Wraps = []api.Wrap{{}} }),
		wrong(3, func(n *api.Node) { n.Wraps = []api.Wrap{hide(64)} }),
		wrong(3, func(n *api.Node) { n.Wraps = slices.Repeat([]api.Wrap{pad(1)}, 17) }),
		{api.Spec{Nodes: []api.Node{{Kind: api.Box, Kids: []int{2}}, {Kind: api.Label}, {Kind: api.Box, Kids: []int{1, 3}}, {Kind: api.Label}}}, api.ErrSpec}, // a lesser number than its parent's
		{stack(slices.Repeat([]api.Spec{label()}, api.MaxNodes)...), api.ErrSpec},
	}
}

// lists are handlers for four nodes, such as may be and such as may not.
func lists() []asked[[]api.Handler] {
	stops := []api.Handler{ends(0, 1, "a"), ends(0, 2, "a"), ends(3, 3, "b"), on(2, 2, "c")}
	wrong := func(h api.Handler, e api.Errno) asked[[]api.Handler] {
		return asked[[]api.Handler]{append(slices.Clone(stops), h), e}
	}
	return []asked[[]api.Handler]{
		{nil, api.OK},
		{stops, api.OK},
		{slices.Repeat(stops, api.MaxEvents/4), api.OK},
		{append(slices.Repeat(stops, api.MaxEvents/4), on(0, 1, "")), api.ErrMany},
		{append(slices.Repeat(stops, api.MaxEvents/4), api.Handler{}), api.ErrMany},
		{append([]api.Handler{{Node: -1}}, slices.Repeat(stops, api.MaxEvents/4)...), api.ErrMany},
		wrong(on(4, 1, "a"), api.ErrNode),
		wrong(on(-1, 1, "a"), api.ErrNode),
		wrong(api.Handler{Node: math.MaxInt}, api.ErrNode),
		wrong(api.Handler{Node: math.MinInt}, api.ErrNode),
		wrong(api.Handler{}, api.ErrEvent),
		wrong(on(3, 0, "a"), api.ErrEvent),
		wrong(on(3, 4, "a"), api.ErrEvent),
		wrong(on(3, 1, strings.Repeat("a", 65)), api.ErrEvent),
		{[]api.Handler{on(0, 0, "a"), on(4, 1, "a")}, api.ErrEvent},
		{[]api.Handler{on(4, 1, "a"), on(0, 0, "a")}, api.ErrNode},
	}
}

// happened are events, such as may be and such as may not.
func happened() []asked[api.Event] {
	l := []asked[api.Event]{
		{move(), api.OK},
		{api.Event{}, api.ErrEvent},
		{api.Event{Kind: 11}, api.ErrEvent},
		{api.Event{Kind: api.EventMove, N: 1}, api.ErrEvent},
		{textOf(strings.Repeat("a", api.MaxText)), api.OK}, // its text would be too long
		{textOf(strings.Repeat("a", api.MaxText+1)), api.ErrEvent},
	}
	for _, e := range samples() {
		l = append(l, asked[api.Event]{e, api.OK})
	}
	return l
}

// numbers are those of nodes of which there are four.
func numbers() []asked[int] {
	return []asked[int]{
		{0, api.OK}, {1, api.OK}, {3, api.OK}, {4, api.ErrNode}, {-1, api.ErrNode}, {5, api.ErrNode},
		{math.MinInt, api.ErrNode}, {math.MaxInt, api.ErrNode},
	}
}

// P19.1 to P19.3: each argument that may not be, together with each other one: the errors in the order of the arguments, nothing beside them.
func TestErrorsInTheirOrder(t *testing.T) {
	told := map[api.Errno]int{}
	for i, s := range specs() {
		for _, node := range numbers() {
			want := firstOf(s.e, node.e)
			if way, e := Way(s.value, node.value); e != want || e != api.OK && way != nil {
				t.Errorf("Way of %d to %d: %v, %d; %d", i, node.value, way, e, want)
			}
		}
		for j, l := range lists() {
			if e := Handlers(s.value, l.value); e != firstOf(s.e, l.e) {
				t.Errorf("Handlers of %d, %d: %d", i, j, e)
			}
			for k, x := range happened() {
				for _, node := range numbers() {
					tells, stop, e := Send(s.value, l.value, x.value, node.value)
					want := firstOf(s.e, l.e, x.e, node.e)
					if e != want || e != api.OK && (tells != nil || stop != 0) {
						t.Errorf("Send of %d, %d, %d to %d: %q, %d, %d; %d", i, j, k, node.value, tells, stop, e, want)
					}
					told[e]++
				}
			}
		}
	}
	for _, e := range []api.Errno{api.OK, api.ErrSpec, api.ErrMany, api.ErrNode, api.ErrEvent} {
		if told[e] < 100 {
			t.Errorf("%d was told %d times", e, told[e])
		}
	}
}

// P19.1, P19.2: the number of a node: of one node alone, and of as many as may be.
func TestNumbersOfNodes(t *testing.T) {
	for _, s := range []api.Spec{button(), box(button(), label()), stack(slices.Repeat([]api.Spec{button()}, api.MaxNodes-1)...)} {
		last := len(s.Nodes) - 1
		for node, want := range map[int]api.Errno{-2: api.ErrNode, -1: api.ErrNode, 0: api.OK, last: api.OK, last + 1: api.ErrNode, last + 2: api.ErrNode} {
			if _, e := Way(s, node); e != want {
				t.Errorf("Way to %d of %d nodes: %d; %d", node, last+1, e, want)
			}
			if e := Handlers(s, []api.Handler{on(node, 1, "")}); e != want {
				t.Errorf("Handlers of %d of %d nodes: %d; %d", node, last+1, e, want)
			}
			if _, _, e := Send(s, nil, move(), node); e != want {
				t.Errorf("Send to %d of %d nodes: %d; %d", node, last+1, e, want)
			}
		}
	}
}
