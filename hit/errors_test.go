package hit

import (
	"math"
	"slices"
	"strings"
	"testing"

	"casement/api"
)

// asked is an argument, and what is wrong with it.
type asked[T any] struct {
	value T
	e     api.Errno
}

func firstOf(l ...api.Errno) api.Errno {
	for _, e := range l {
		if e != api.OK {
			return e
		}
	}
	return api.OK
}

// specs are such as may be, all of three nodes, and such as may not; the last ones need too much.
func specs() []asked[api.Spec] {
	change := func(node int, change func(n *api.Node)) asked[api.Spec] {
		return asked[api.Spec]{changed(pair(), node, change), api.ErrSpec}
	}
	return []asked[api.Spec]{
		{pair(), api.OK},
		{hidden(pair()), api.OK},
		{wrapped(pair(), half()), api.OK},
		{api.Spec{}, api.ErrSpec},
		{api.Spec{Nodes: []api.Node{}}, api.ErrSpec},
		{of(api.Node{}), api.ErrSpec},
		{one(11), api.ErrSpec},
		{of(api.Node{Kind: api.Button}, button("")), api.ErrSpec},
		{scroll(0, 0, button(""), button("")), api.ErrSpec},
		{wrapped(pair(), pad(-1)), api.ErrSpec},
		{wrapped(pair(), hide(64)), api.ErrSpec},
		{wrapped(pair(), slices.Repeat([]api.Wrap{focusing(1)}, 17)...), api.ErrSpec},
		{with(pair(), func(n *api.Node) { n.Min, n.Max = api.Size{W: 2}, api.Size{W: 1} }), api.ErrSpec},
		change(1, func(n *api.Node) { n.Order = -2 }),
		change(1, func(n *api.Node) { n.Name = "\xff" }),
		change(1, func(n *api.Node) { n.Name = strings.Repeat("n", 65) }),
		change(1, func(n *api.Node) { n.Text = "\xff" }),
		change(1, func(n *api.Node) { n.Off.X = -1 }),
		change(0, func(n *api.Node) { n.Kids = []int{1} }),
		change(0, func(n *api.Node) { n.Kids = []int{1, 1, 2} }),
		change(0, func(n *api.Node) { n.Kids = []int{0, 1, 2} }),
		change(0, func(n *api.Node) { n.Kids = []int{1, 2, 3} }),
		change(0, func(n *api.Node) { n.Kids = []int{1, 2, -1} }),
		{api.Spec{Nodes: []api.Node{{Kind: api.Box, Kids: []int{2}}, {Kind: api.Button}, {Kind: api.Box, Kids: []int{1}}}}, api.ErrSpec}, // a lesser number than its parent's
		{stack(slices.Repeat([]api.Spec{button("a")}, api.MaxNodes)...), api.ErrSpec},
		{box(thing(side, 0), button("b")), api.ErrSize},
		{stack(button("a"), label(strings.Repeat("a", side+1))), api.ErrSize},
	}
}

func rectangles() []asked[api.Rect] {
	return []asked[api.Rect]{
		{rect(0, 0, 30, 3), api.OK},
		{rect(0, 0, 0, 0), api.OK},
		{rect(3, -3, 512, 512), api.OK},
		{rect(-side, 3, 2*side, 0), api.OK},
		{rect(0, 0, -1, 0), api.ErrRect},
		{rect(0, 0, 0, -1), api.ErrRect},
		{rect(-1, -1, -700, -700), api.ErrRect}, // as many places as are too many, if one only counts
		{rect(-side-1, 0, 1, 1), api.ErrRect},
		{rect(-side-1, 0, 1024, 1024), api.ErrRect},
		{rect(0, side, 0, 1), api.ErrRect},
		{rect(1, 0, side, side), api.ErrRect},
		{rect(math.MaxInt, 0, math.MaxInt, 1), api.ErrRect},
		{rect(0, 0, math.MaxInt, math.MaxInt), api.ErrRect},
		{rect(math.MinInt, math.MinInt, 0, 0), api.ErrRect},
		{rect(side, 0, 0, 1), api.ErrSize}, // a kid would lie beyond the last place
		{rect(-side, -side, 2*side, 2*side), api.ErrCell},
		{rect(0, 0, 513, 512), api.ErrCell},
	}
}

// early is what is wrong with an argument itself, for a call that asks for that error or not.
func early(e api.Errno, counts bool) api.Errno {
	if e == api.ErrSize || e == api.ErrCell && !counts {
		return api.OK
	}
	return e
}

// beyond is the size's error, which comes behind all others: the spec's, or that of the rectangle, if something is there that would lie beyond.
func beyond(s asked[api.Spec], r asked[api.Rect]) api.Errno {
	if s.e == api.ErrSize || r.e == api.ErrSize && s.e == api.OK && !s.value.Nodes[0].Hidden && len(s.value.Nodes[0].Wraps) == 0 {
		return api.ErrSize
	}
	return api.OK
}

// P20.1, P20.2: each argument that may not be, together with each other one: the errors from the left, ErrCell of a Map, ErrSize last, nothing beside them.
func TestErrorsInTheirOrder(t *testing.T) {
	told := map[api.Errno]int{}
	for i, s := range specs() {
		for _, r := range rectangles() {
			want := firstOf(early(s.e, false), early(r.e, false), beyond(s, r))
			for _, p := range []api.Point{{}, at(1, 1), at(math.MinInt, math.MaxInt)} {
				if top, is, e := At(s.value, r.value, p); e != want || e != api.OK && (top != 0 || is) {
					t.Errorf("At of %d in %v at %v: %d, %v, %d; %d", i, r.value, p, top, is, e, want)
				}
				if all, e := All(s.value, r.value, p); e != want || e != api.OK && all != nil {
					t.Errorf("All of %d in %v at %v: %v, %d; %d", i, r.value, p, all, e, want)
				}
			}
			want = firstOf(early(s.e, true), early(r.e, true), beyond(s, r))
			tops, e := Map(s.value, r.value)
			if e != want || e != api.OK && tops != nil || e == api.OK && len(tops) != r.value.Size.W*r.value.Size.H {
				t.Errorf("Map of %d in %v: %d of them, %d; %d", i, r.value, len(tops), e, want)
			}
			told[e]++
		}
	}
	for _, e := range []api.Errno{api.OK, api.ErrRect, api.ErrSpec, api.ErrSize, api.ErrCell} {
		if told[e] == 0 {
			t.Errorf("%d was never told", e)
		}
	}
}

// P20.3: the spec ahead of both numbers, whichever they are; nothing beside an error.
func TestErrorsOfCrossed(t *testing.T) {
	told := map[api.Errno]int{}
	for i, s := range specs() {
		for _, from := range []int{-1, 0, 1, 2, 3, -2, 1 << 40, math.MinInt, math.MaxInt} {
			for _, to := range []int{-1, 0, 1, 2, 3, -2, -1 << 40, math.MinInt, math.MaxInt} {
				want := early(s.e, false)
				if count := len(s.value.Nodes); want == api.OK && (from < -1 || from >= count || to < -1 || to >= count) {
					want = api.ErrNode
				}
				left, entered, e := Crossed(s.value, from, to)
				if e != want || e != api.OK && (left != nil || entered != nil) {
					t.Errorf("Crossed of %d from %d to %d: %v and %v, %d; %d", i, from, to, left, entered, e, want)
				}
				told[e]++
			}
		}
	}
	if told[api.OK] == 0 || told[api.ErrSpec] == 0 || told[api.ErrNode] == 0 || len(told) != 3 {
		t.Errorf("%v", told)
	}
}

// P20.1, P20.2: a need beyond all sides, in any rectangle, also where nobody of those would show.
func TestTooGreat(t *testing.T) {
	for _, r := range []api.Rect{{}, rect(0, 0, 1, 1), rect(-side, -side, 2*side, 2*side), rect(-side, -side, 0, 9)} {
		for name, c := range map[string]asked[api.Spec]{
			"just": {box(thing(side, 0), button("")), api.ErrSize}, "less": {box(thing(side-4, 0), button("")), api.OK},
			"in a hidden one": {box(hidden(box(thing(side, 0), button("")))), api.OK}, "in a Scroll": {scroll(0, 0, box(thing(side, 0), button(""))), api.ErrSize},
		} {
			if _, _, e := At(c.value, r, r.At); e != c.e {
				t.Errorf("At of %s in %v: %d; %d", name, r, e, c.e)
			}
			if _, e := All(c.value, r, r.At); e != c.e {
				t.Errorf("All of %s in %v: %d; %d", name, r, e, c.e)
			}
			want := c.e
			if r.Size.W*r.Size.H > api.MaxCells {
				want = api.ErrCell
			}
			if _, e := Map(c.value, r); e != want {
				t.Errorf("Map of %s in %v: %d; %d", name, r, e, want)
			}
		}
	}
}
