package focus

import (
	"math"
	"slices"
	"strings"
	"testing"

	"casement/api"
)

// asked is an argument, and what is wrong with it.
type asked[T any] struct {
	value T
	e     api.Errno
}

func firstOf(l ...api.Errno) api.Errno {
	for _, e := range l {
		if e != api.OK {
			return e
		}
	}
	return api.OK
}

// pair is three nodes, of which the middle one alone can be focused.
func pair() api.Spec { return box(button("a"), label("b")) }

// specs are such as may be, all of three nodes, and such as may not; the last ones need too much.
func specs() []asked[api.Spec] {
	change := func(node int, change func(n *api.Node)) asked[api.Spec] {
		return asked[api.Spec]{changed(pair(), node, change), api.ErrSpec}
	}
	return []asked[api.Spec]{
		{pair(), api.OK},
		{hidden(pair()), api.OK},
		{wrapped(pair(), focusing(greatest)), api.OK},
		{api.Spec{}, api.ErrSpec},
		{api.Spec{Nodes: []api.Node{}}, api.ErrSpec},
		{of(api.Node{}), api.ErrSpec},
		{one(11), api.ErrSpec},
		{of(api.Node{Kind: api.Button}, button("")), api.ErrSpec},
		{scroll(0, 0, button(""), button("")), api.ErrSpec},
		{wrapped(pair(), focusing(-2)), api.ErrSpec},
		{wrapped(pair(), focusing(greatest+1)), api.ErrSpec},
		{wrapped(pair(), hide(64)), api.ErrSpec},
		{wrapped(pair(), slices.Repeat([]api.Wrap{focusing(1)}, 17)...), api.ErrSpec},
		change(1, func(n *api.Node) { n.Order = -2 }),
		change(1, func(n *api.Node) { n.Order = greatest + 1 }),
		change(1, func(n *api.Node) { n.Order = math.MinInt }),
		change(1, func(n *api.Node) { n.Name = "\xff" }),
		change(1, func(n *api.Node) { n.Name = strings.Repeat("n", 65) }),
		change(1, func(n *api.Node) { n.Text = "\xff" }),
		change(0, func(n *api.Node) { n.Kids = []int{1} }),
		change(0, func(n *api.Node) { n.Kids = []int{1, 1, 2} }),
		change(0, func(n *api.Node) { n.Kids = []int{0, 1, 2} }),
		change(0, func(n *api.Node) { n.Kids = []int{1, 2, 3} }),
		{api.Spec{Nodes: []api.Node{{Kind: api.Box, Kids: []int{2}}, {Kind: api.Button}, {Kind: api.Box, Kids: []int{1}}}}, api.ErrSpec}, // a lesser number than its parent's
		{stack(slices.Repeat([]api.Spec{button("a")}, api.MaxNodes)...), api.ErrSpec},
		{box(thing(side, 0), button("b")), api.ErrSize},
		{stack(button("a"), of(api.Node{Kind: api.Label, Text: strings.Repeat("a", side+1)})), api.ErrSize},
	}
}

func rectangles() []asked[api.Rect] {
	return []asked[api.Rect]{
		{rect(0, 0, 30, 3), api.OK},
		{rect(0, 0, 0, 0), api.OK},
		{rect(-side, -side, 2*side, 2*side), api.OK},
		{rect(0, 0, -1, 0), api.ErrRect},
		{rect(0, 0, 0, -1), api.ErrRect},
		{rect(-side-1, 0, 1, 1), api.ErrRect},
		{rect(0, side, 0, 1), api.ErrRect},
		{rect(math.MaxInt, 0, math.MaxInt, 1), api.ErrRect},
		{rect(math.MinInt, math.MinInt, 0, 0), api.ErrRect},
		{rect(side, 0, 0, 1), api.ErrSize}, // a kid would lie beyond the last place
	}
}

// numbers are those of nodes of which there are three; whether -1 may be, the call says.
func numbers() []asked[int] {
	return []asked[int]{
		{0, api.OK}, {1, api.OK}, {2, api.OK}, {3, api.ErrNode}, {-1, api.ErrNode}, {-2, api.ErrNode},
		{math.MinInt, api.ErrNode}, {math.MaxInt, api.ErrNode},
	}
}

// beyond is the size's error, which comes behind those of all arguments: the spec's, or that of the rectangle, if something is there that would lie beyond.
func beyond(s asked[api.Spec], r asked[api.Rect]) api.Errno {
	if s.e == api.ErrSize || r.e == api.ErrSize && s.e == api.OK && !s.value.Nodes[0].Hidden {
		return api.ErrSize
	}
	return api.OK
}

// early is what is wrong with an argument itself.
func early(e api.Errno) api.Errno {
	if e == api.ErrSize {
		return api.OK
	}
	return e
}

// unfocused is the error of a node that can't be focused, which comes last.
func unfocused(s asked[api.Spec], node asked[int]) api.Errno {
	if s.e == api.OK && node.e == api.OK && modelFocus(s.value, node.value) {
		return api.OK
	}
	return api.ErrFocus
}

// from is a number where -1 may be, too.
func from(node asked[int]) asked[int] {
	if node.value == -1 {
		node.e = api.OK
	}
	return node
}

// P18.1 to P18.3: each argument that may not be, together with each other one: the errors from the left, then ErrSize, then ErrFocus, nothing beside them.
func TestErrorsInTheirOrder(t *testing.T) {
	told := map[api.Errno]int{}
	for i, s := range specs() {
		for _, r := range rectangles() {
			wrong := firstOf(early(s.e), early(r.e))
			got, e := Order(s.value, r.value)
			if want := firstOf(wrong, beyond(s, r)); e != want || e != api.OK && got != nil {
				t.Errorf("Order of %d in %v: %v, %d; %d", i, r.value, got, e, want)
			}
			for _, node := range numbers() {
				for call, step := range []func(api.Spec, api.Rect, int) (int, bool, api.Errno){Next, Back} {
					to, is, e := step(s.value, r.value, node.value)
					want := firstOf(wrong, from(node).e, beyond(s, r))
					if want == api.OK && node.value != -1 {
						want = unfocused(s, node)
					}
					if e != want || e != api.OK && (to != 0 || is) {
						t.Errorf("step %d of %d in %v, %d: %d, %v, %d; %d", call, i, r.value, node.value, to, is, e, want)
					}
				}
				for _, way := range []asked[uint8]{{0, api.OK}, {3, api.OK}, {4, api.ErrArg}, {5, api.ErrArg}, {128, api.ErrArg}, {255, api.ErrArg}} {
					to, is, e := Toward(s.value, r.value, node.value, way.value)
					want := firstOf(wrong, node.e, way.e, beyond(s, r), unfocused(s, node))
					if e != want || e != api.OK && (to != 0 || is) {
						t.Errorf("Toward of %d in %v, %d by %d: %d, %v, %d; %d", i, r.value, node.value, way.value, to, is, e, want)
					}
					told[e]++
				}
			}
		}
	}
	for _, e := range []api.Errno{api.OK, api.ErrArg, api.ErrRect, api.ErrSpec, api.ErrNode, api.ErrSize, api.ErrFocus} {
		if told[e] == 0 {
			t.Errorf("%d was never told", e)
		}
	}
}

// P18.4: both specs ahead of the rectangle, that ahead of the node, that ahead of what is too great; a node that can't be focused is no error.
func TestErrorsOfKeep(t *testing.T) {
	told := map[api.Errno]int{}
	for i, old := range specs() {
		for j, now := range specs() {
			for _, r := range rectangles() {
				for _, node := range numbers() {
					to, is, e := Keep(old.value, now.value, r.value, node.value)
					want := firstOf(early(old.e), early(now.e), early(r.e), from(node).e, beyond(old, r), beyond(now, r))
					if e != want || e != api.OK && (to != 0 || is) {
						t.Errorf("Keep of %d and %d in %v, %d: %d, %v, %d; %d", i, j, r.value, node.value, to, is, e, want)
					}
					if kept := e == api.OK && node.value >= 0 && modelFocus(old.value, node.value) && len(modelOrder(now.value)) > 0; is != kept {
						t.Errorf("Keep of %d and %d in %v, %d: %d, %v, %d", i, j, r.value, node.value, to, is, e)
					}
					told[e]++
				}
			}
		}
	}
	for _, e := range []api.Errno{api.OK, api.ErrRect, api.ErrSpec, api.ErrNode, api.ErrSize} {
		if told[e] == 0 {
			t.Errorf("%d was never told", e)
		}
	}
	if told[api.ErrFocus]+told[api.ErrArg] > 0 {
		t.Errorf("%v", told)
	}
}

// P18.2 to P18.4: the node's number: -2, -1, 0, the last one, one more; of specs of one node and of as many as may be, too.
func TestNumbersOfNodes(t *testing.T) {
	for _, s := range []api.Spec{button("a"), box(button("a"), button("b")), stack(slices.Repeat([]api.Spec{button("a")}, api.MaxNodes-1)...)} {
		last := len(s.Nodes) - 1
		for node, want := range map[int]api.Errno{-2: api.ErrNode, -1: api.OK, last: api.OK, last + 1: api.ErrNode, last + 2: api.ErrNode} {
			if _, is, e := Next(s, wide(), node); e != want || is != (want == api.OK) {
				t.Errorf("Next %d of %d nodes: %v, %d; %d", node, last+1, is, e, want)
			}
			if _, is, e := Back(s, wide(), node); e != want || is != (want == api.OK) {
				t.Errorf("Back %d of %d nodes: %v, %d; %d", node, last+1, is, e, want)
			}
			if _, is, e := Keep(s, s, wide(), node); e != want || is != (node == last) {
				t.Errorf("Keep %d of %d nodes: %v, %d; %d", node, last+1, is, e, want)
			}
			if node == -1 {
				want = api.ErrNode
			}
			if _, _, e := Toward(s, wide(), node, 0); e != want {
				t.Errorf("Toward %d of %d nodes: %d; %d", node, last+1, e, want)
			}
		}
	}
}
