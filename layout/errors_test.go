package layout

import (
	"math"
	"slices"
	"strings"
	"testing"

	"casement/api"
)

// asked is an argument, and what is wrong with it.
type asked[T any] struct {
	value T
	e     api.Errno
}

func firstOf(l ...api.Errno) api.Errno {
	for _, e := range l {
		if e != api.OK {
			return e
		}
	}
	return api.OK
}

// specs are such as may be, and such as may not, all with the Box B first; the last ones need too much.
func specs() []asked[api.Spec] {
	change := func(change func(n *api.Node)) asked[api.Spec] {
		return asked[api.Spec]{with(two(), change), api.ErrSpec}
	}
	return []asked[api.Spec]{
		{two(), api.OK},
		{hidden(two()), api.OK},
		{wrapped(two(), hide(api.Holds)), api.OK},
		{api.Spec{}, api.ErrSpec},
		{api.Spec{Nodes: []api.Node{}}, api.ErrSpec},
		{of(api.Node{}), api.ErrSpec},
		{of(api.Node{Kind: 11}), api.ErrSpec},
		{of(api.Node{Kind: api.Label}, label("a")), api.ErrSpec},
		{scroll(0, 0, label("a"), label("b")), api.ErrSpec},
		{wrapped(two(), pad(-1)), api.ErrSpec},
		{wrapped(two(), slices.Repeat([]api.Wrap{pad(1)}, 17)...), api.ErrSpec},
		{wrapped(two(), pad(side+1)), api.ErrSpec},
		change(func(n *api.Node) { n.Kids = []int{1} }),
		change(func(n *api.Node) { n.Kids = []int{1, 1, 2} }),
		change(func(n *api.Node) { n.Kids = []int{0, 1, 2} }),
		change(func(n *api.Node) { n.Kids = []int{1, 2, 3} }),
		change(func(n *api.Node) { n.Gap = -1 }),
		change(func(n *api.Node) { n.Gap = side + 1 }),
		change(func(n *api.Node) { n.Min.W = side + 1 }),
		change(func(n *api.Node) { n.Max, n.Min = api.Size{W: 1}, api.Size{W: 2} }),
		change(func(n *api.Node) { n.Text = "\xff" }),
		change(func(n *api.Node) { n.Off.X = -1 }),
		{box(side, label("a"), label("b")), api.ErrSize},
		{box(0, label("a"), label(strings.Repeat("a", side+1))), api.ErrSize},
	}
}

// P12.1 to P12.4: each argument that may not be, together with each other one: the errors from the left, ErrSize last, nothing beside them.
func TestErrorsInTheirOrder(t *testing.T) {
	rectangles := []asked[api.Rect]{
		{rect(0, 0, 30, 3), api.OK}, {rect(0, 0, 0, 0), api.OK}, {rect(-side, -side, 2*side, 2*side), api.OK},
		{rect(0, 0, -1, 0), api.ErrRect}, {rect(0, 0, 0, -1), api.ErrRect}, {rect(-side-1, 0, 1, 1), api.ErrRect}, {rect(0, side, 0, 1), api.ErrRect},
		{rect(math.MaxInt, 0, math.MaxInt, 1), api.ErrRect}, {rect(math.MinInt, math.MinInt, 0, 0), api.ErrRect},
		{rect(side, 0, 0, 1), api.ErrSize}, // a kid would lie beyond the last place
	}
	for i, s := range specs() {
		spec, size := s.e, api.OK
		if s.e == api.ErrSize {
			spec, size = api.OK, s.e
		}
		if got, e := Need(s.value); e != s.e || (got == nil) != (e != api.OK) {
			t.Errorf("Need of %d: %v, %d", i, got, e)
		}
		for _, r := range rectangles {
			wrong, beyond := r.e, api.OK
			if r.e == api.ErrSize {
				wrong, beyond = api.OK, r.e
				if s.e == api.OK && i > 0 { // without kids that are there nothing lies beyond
					beyond = api.OK
				}
			}
			got, e := Places(s.value, r.value)
			if want := firstOf(spec, wrong, size, beyond); e != want || (got == nil) != (e != api.OK) {
				t.Errorf("Places of %d in %v: %v, %d; %d", i, r.value, got, e, want)
			}
			for _, node := range []int{-1, 0, 2, 3, math.MinInt, math.MaxInt} {
				no := api.OK
				if node < 0 || node > 2 {
					no = api.ErrNode
				}
				got, e := Of(s.value, r.value, node)
				if want := firstOf(spec, wrong, no, size, beyond); e != want || e != api.OK && got != (api.Place{}) || e == api.OK && got.Node != node {
					t.Errorf("Of of %d in %v, %d: %v, %d; %d", i, r.value, node, got, e, want)
				}
			}
		}
		refused(t, i, s.value, spec, size)
	}
}

// refused asks Bounds and Fits for the first error.
func refused(t *testing.T, i int, s api.Spec, spec, size api.Errno) {
	t.Helper()
	for _, node := range []int{-1, 0, 1, 2, 3, math.MinInt, math.MaxInt} {
		no := api.OK
		switch {
		case node < 0 || node > 2:
			no = api.ErrNode
		case node > 0 || i == 1 || i == 2: // Labels; a Box that is Hidden, or can't hold
			no = api.ErrNone
		}
		for _, along := range []bool{true, false} {
			got, n, e := Bounds(s, node, along)
			if want := firstOf(spec, no, size); e != want || e != api.OK && (got != nil || n != 0) {
				t.Errorf("Bounds of %d, %d: %v, %d, %d; %d", i, node, got, n, e, want)
			}
		}
	}
	for _, l := range []asked[[]api.Place]{
		{at(0, 0, 0, 0, 0, 0, 0, 0, 0, 0, 0, 0), api.OK},
		{at(math.MaxInt, 0, math.MaxInt, 0, 0, 0, 0, 0, 0, 0, 0, 0), api.OK}, // its rectangle is no error
		{nil, api.ErrArg},
		{at(0, 0, 0, 0), api.ErrArg},
		{at(0, 0, 0, 0, 0, 0, 0, 0, 0, 0, 0, 0, 0, 0, 0, 0), api.ErrArg},
		{make([]api.Place, 3), api.ErrArg},
	} {
		got, e := Fits(s, l.value)
		if want := firstOf(spec, l.e, size); e != want || e != api.OK && got != 0 {
			t.Errorf("Fits of %d, %v: %d, %d; %d", i, l.value, got, e, want)
		}
	}
}

// P12.2, P12.3: numbers of a node: -1, 0, the last one and one more.
func TestNumbersOfNodes(t *testing.T) {
	s := box(1, two(), label("d"))
	r := rect(3, 4, 20, 5)
	l, e := Places(s, r)
	if e != api.OK {
		t.Fatal(e)
	}
	for node := -2; node < 7; node++ {
		p, e := Of(s, r, node)
		if node < 0 || node > 4 {
			if p != (api.Place{}) || e != api.ErrNode {
				t.Errorf("Of %d: %v, %d", node, p, e)
			}
			if _, _, e := Bounds(s, node, true); e != api.ErrNode {
				t.Errorf("Bounds %d: %d", node, e)
			}
			continue
		}
		if p != l[node] || e != api.OK {
			t.Errorf("Of %d: %v, %d; %v", node, p, e, l[node])
		}
	}
	// of one that is not there a place is told, too
	if p, e := Of(hidden(s), r, 4); p != (api.Place{Node: 4}) || e != api.OK {
		t.Errorf("Of what is not there: %v, %d", p, e)
	}
}
