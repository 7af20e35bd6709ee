package paint

import (
	"math"
	"slices"
	"strings"
	"testing"

	"casement/api"
	"casement/style"
)

// asked is an argument, and what is wrong with it.
type asked[T any] struct {
	value T
	e     api.Errno
}

func firstOf(l ...api.Errno) api.Errno {
	for _, e := range l {
		if e != api.OK {
			return e
		}
	}
	return api.OK
}

// specs are such as may be, all of three nodes, and such as may not; the last ones need too much.
func specs() []asked[api.Spec] {
	change := func(change func(n *api.Node)) asked[api.Spec] {
		return asked[api.Spec]{with(pair(), change), api.ErrSpec}
	}
	return []asked[api.Spec]{
		{pair(), api.OK},
		{hidden(pair()), api.OK},
		{api.Spec{}, api.ErrSpec},
		{api.Spec{Nodes: []api.Node{}}, api.ErrSpec},
		{of(api.Node{}), api.ErrSpec},
		{of(api.Node{Kind: api.Label}, label("a")), api.ErrSpec},
		{scroll(0, 0, label("a"), label("b")), api.ErrSpec},
		{wrapped(pair(), pad(-1)), api.ErrSpec},
		change(func(n *api.Node) { n.Kids = []int{1} }),
		change(func(n *api.Node) { n.Kids = []int{0, 1, 2} }),
		change(func(n *api.Node) { n.Kids = []int{1, 2, 3} }),
		change(func(n *api.Node) { n.Gap = side + 1 }),
		change(func(n *api.Node) { n.Class = strings.Repeat("a", 65) }),
		{stack(slices.Repeat([]api.Spec{label("a")}, api.MaxNodes)...), api.ErrSpec},
		{box(side, label("a"), label("b")), api.ErrSize},
		{stack(label("a"), label(strings.Repeat("a", side+1))), api.ErrSize},
	}
}

func rectangles() []asked[api.Rect] {
	return []asked[api.Rect]{
		{rect(0, 0, 30, 3), api.OK},
		{rect(0, 0, 0, 0), api.OK},
		{rect(-side, -side, 2*side, 2*side), api.OK},
		{rect(0, 0, -1, 0), api.ErrRect},
		{rect(0, 0, 0, -1), api.ErrRect},
		{rect(-side-1, 0, 1, 1), api.ErrRect},
		{rect(0, side, 0, 1), api.ErrRect},
		{rect(math.MaxInt, 0, math.MaxInt, 1), api.ErrRect},
		{rect(math.MinInt, math.MinInt, 0, 0), api.ErrRect},
		{rect(side, 0, 0, 1), api.ErrSize}, // a kid would lie beyond the last place
	}
}

func themes() []asked[[]api.Rule] {
	wrong := api.Rule{Kind: 11}
	return []asked[[]api.Rule]{
		{nil, api.OK},
		{style.Usual(), api.OK},
		{make([]api.Rule, api.MaxRules), api.OK},
		{make([]api.Rule, api.MaxRules+1), api.ErrMany},
		{append(make([]api.Rule, api.MaxRules), wrong), api.ErrMany},
		{theme(wrong), api.ErrRule},
		{theme(api.Rule{}, api.Rule{State: 16}), api.ErrRule},
		{theme(api.Rule{Class: "a b"}), api.ErrRule},
		{theme(api.Rule{Look: api.Look{Has: 8, Pad: -1}}), api.ErrRule},
		{theme(api.Rule{Look: api.Look{Pad: 1}}), api.ErrRule},
	}
}

// rows are states of the three nodes that the specs have that may be.
func rows() []asked[[]uint8] {
	return []asked[[]uint8]{
		{nil, api.OK},
		{[]uint8{1}, api.OK},
		{[]uint8{255, 16, 15}, api.OK},
		{[]uint8{0, 0, 0, 0}, api.ErrMany},
		{make([]uint8, 5000), api.ErrMany},
	}
}

// beyond is the size's error, which comes last: the spec's, or that of the rectangle, if something is there that would lie beyond.
func beyond(s asked[api.Spec], r asked[api.Rect]) api.Errno {
	if s.e == api.ErrSize || r.e == api.ErrSize && s.e == api.OK && !s.value.Nodes[0].Hidden {
		return api.ErrSize
	}
	return api.OK
}

// early is what is wrong with an argument itself.
func early(e api.Errno) api.Errno {
	if e == api.ErrSize {
		return api.OK
	}
	return e
}

// P14.1, P14.2, P14.3: each argument that may not be, together with each other one: the errors from the left, ErrSize last, nothing beside them.
func TestErrorsInTheirOrder(t *testing.T) {
	told := map[api.Errno]int{}
	for i, s := range specs() {
		for j, rules := range themes() {
			for k, states := range rows() {
				got, e := Looks(s.value, rules.value, states.value)
				if want := firstOf(early(s.e), rules.e, states.e); e != want || (got == nil) != (e != api.OK) {
					t.Errorf("Looks of %d, %d, %d: %v, %d; %d", i, j, k, got, e, want)
				}
				for _, r := range rectangles() {
					wrong := firstOf(early(s.e), early(r.e), rules.e, states.e)
					drawn, e := Draw(s.value, r.value, rules.value, states.value)
					if want := firstOf(wrong, beyond(s, r)); e != want || e != api.OK && drawn != nil {
						t.Errorf("Draw of %d, %v, %d, %d: %v, %d; %d", i, r.value, j, k, drawn, e, want)
					}
					for _, node := range []asked[int]{{-1, api.ErrNode}, {0, api.OK}, {2, api.OK}, {3, api.ErrNode}, {math.MinInt, api.ErrNode}, {math.MaxInt, api.ErrNode}} {
						one, e := Part(s.value, r.value, rules.value, states.value, node.value)
						want := firstOf(wrong, node.e, beyond(s, r))
						if e != want || e != api.OK && one != nil {
							t.Errorf("Part of %d, %v, %d, %d, %d: %v, %d; %d", i, r.value, j, k, node.value, one, e, want)
						}
						told[e]++
					}
				}
			}
		}
	}
	for _, e := range []api.Errno{api.OK, api.ErrMany, api.ErrRect, api.ErrSpec, api.ErrNode, api.ErrSize, api.ErrRule} {
		if told[e] == 0 {
			t.Errorf("%d was never told", e)
		}
	}
}

// P14.2
func TestOrdersErrors(t *testing.T) {
	for i, s := range specs() {
		for _, r := range rectangles() {
			got, e := Order(s.value, r.value)
			if want := firstOf(early(s.e), early(r.e), beyond(s, r)); e != want || e != api.OK && got != nil {
				t.Errorf("Order of %d in %v: %v, %d; %d", i, r.value, got, e, want)
			}
		}
	}
}

// P14.3: the number of the node: -1, 0, the last one, one more; of a tree of one node, too.
func TestNumbersOfNodes(t *testing.T) {
	for _, s := range []api.Spec{label("a"), pair(), tee(), stack(slices.Repeat([]api.Spec{label("a")}, api.MaxNodes-1)...)} {
		last := len(s.Nodes) - 1
		for node, want := range map[int]api.Errno{-1: api.ErrNode, 0: api.OK, last: api.OK, last + 1: api.ErrNode, last + 2: api.ErrNode} {
			if l, e := Part(s, rect(0, 0, 20, 1), nil, nil, node); e != want || node == last && len(l) == 0 {
				t.Errorf("Part %d of %d nodes: %v, %d; %d", node, len(s.Nodes), l, e, want)
			}
		}
	}
}
