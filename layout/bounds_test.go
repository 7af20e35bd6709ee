package layout

import (
	"slices"
	"testing"

	"casement/api"
	"casement/least"
)

// bounds are told as rows of A, B and Far.
func bounds(l ...int) []api.Bound {
	var all []api.Bound
	for three := range slices.Chunk(l, 3) {
		all = append(all, api.Bound{A: three[0], B: three[1], Far: three[2]})
	}
	return all
}

// P12.3: the chapter's examples, rows and columns, along and across, no kids, kids that are not there.
func TestBounds(t *testing.T) {
	mixed := box(2, hidden(label("abc")), thing(3, 5), wrapped(label("d"), half()), thing(1, 7), hidden(two()), thing(0, 2))
	for name, x := range map[string]struct {
		s             api.Spec
		node          int
		along, across []api.Bound
		kids          int
	}{
		"B":                         {two(), 0, bounds(0, 1, 2, 1, 2, 1, 2, 3, 1), bounds(0, 1, 1, 0, 1, 1), 2},
		"V":                         {column(two()), 0, bounds(0, 1, 1, 1, 2, 1, 2, 3, 1), bounds(0, 1, 2, 0, 1, 1), 2},
		"no kids":                   {box(3), 0, nil, nil, 0},
		"no kids in a column":       {column(box(3)), 0, nil, nil, 0},
		"one kid":                   {box(3, thing(4, 5)), 0, bounds(0, 1, 4), bounds(0, 1, 5), 1},
		"kids not there alone":      {box(3, hidden(label("ab")), wrapped(label("c"), half())), 0, nil, nil, 0},
		"kids not there between":    {mixed, 0, bounds(0, 1, 3, 1, 2, 2, 2, 3, 1, 3, 4, 2, 4, 5, 0), bounds(0, 1, 5, 0, 1, 7, 0, 1, 2), 3},
		"in a column":               {column(mixed), 0, bounds(0, 1, 5, 1, 2, 2, 2, 3, 7, 3, 4, 2, 4, 5, 2), bounds(0, 1, 3, 0, 1, 1, 0, 1, 0), 3},
		"a pad does not count":      {wrapped(two(), pad(9)), 0, bounds(0, 1, 2, 1, 2, 1, 2, 3, 1), bounds(0, 1, 1, 0, 1, 1), 2},
		"Min does not count":        {atLeast(two(), 9, 9), 0, bounds(0, 1, 2, 1, 2, 1, 2, 3, 1), bounds(0, 1, 1, 0, 1, 1), 2},
		"kids' Min does":            {box(0, atLeast(label("a"), 7, 8)), 0, bounds(0, 1, 7), bounds(0, 1, 8), 1},
		"kids' pads do":             {box(0, wrapped(label("a"), pad(3))), 0, bounds(0, 1, 7), bounds(0, 1, 7), 1},
		"kids' most does not":       {box(0, atMost(thing(1, 1), 5, 5)), 0, bounds(0, 1, 1), bounds(0, 1, 1), 1},
		"a Box that can hold alone": {wrapped(two(), only(api.Holds)), 0, bounds(0, 1, 2, 1, 2, 1, 2, 3, 1), bounds(0, 1, 1, 0, 1, 1), 2},
		"a Box within":              {stack(label("window"), column(two())), 2, bounds(0, 1, 1, 1, 2, 1, 2, 3, 1), bounds(0, 1, 2, 0, 1, 1), 2},
		"a Box in a Scroll":         {scroll(3, 3, two()), 1, bounds(0, 1, 2, 1, 2, 1, 2, 3, 1), bounds(0, 1, 1, 0, 1, 1), 2},
		"a Box that holds Boxes":    {box(4, two(), column(two())), 0, bounds(0, 1, 4, 1, 2, 4, 2, 3, 2), bounds(0, 1, 1, 0, 1, 3), 2},
		"as great as may be":        {box(side, thing(0, side), thing(0, 1)), 0, bounds(0, 1, 0, 1, 2, side, 2, 3, 0), bounds(0, 1, side, 0, 1, 1), 2},
		"kids' numbers in no order": {
			api.Spec{Nodes: []api.Node{{Kind: api.Box, Gap: 5, Kids: []int{2, 1}}, {Kind: api.Label, Text: "a"}, {Kind: api.Label, Text: "bcd"}}},
			0, bounds(0, 1, 3, 1, 2, 5, 2, 3, 1), bounds(0, 1, 1, 0, 1, 1), 2,
		},
	} {
		got, n, e := Bounds(x.s, x.node, true)
		if !slices.Equal(got, x.along) || n != 2*x.kids || e != api.OK {
			t.Errorf("Bounds of %s: %v, %d, %d", name, got, n, e)
		}
		got, n, e = Bounds(x.s, x.node, false)
		if !slices.Equal(got, x.across) || n != min(2*x.kids, 2) || e != api.OK {
			t.Errorf("Bounds of %s, across: %v, %d, %d", name, got, n, e)
		}
		agree(t, x.s, rect(0, 0, 30, 30))
	}
}

// P12.3: who has no bounds: other kinds, Boxes that are not there, or can't hold.
func TestBoundsOfNone(t *testing.T) {
	all := []api.Spec{
		hidden(two()), wrapped(two(), half()), wrapped(two(), half(), focus()),
		wrapped(two(), hide(api.Holds)), wrapped(two(), only(api.Measures|api.Paints)), wrapped(two(), hide(api.Holds), only(api.All)),
		wrapped(box(0), hide(api.Holds)), hidden(box(0)),
	}
	for kind := api.Label; kind <= api.Stack; kind++ {
		if kind != api.Box {
			all = append(all, of(api.Node{Kind: kind}))
		}
	}
	all = append(all, grids(2, 1, label("ab")), stack(label("ab")), scroll(0, 0, label("ab")))
	for i, s := range all {
		for _, along := range []bool{true, false} {
			if got, n, e := Bounds(s, 0, along); got != nil || n != 0 || e != api.ErrNone {
				t.Errorf("Bounds of none %d: %v, %d, %d", i, got, n, e)
			}
			// so, too, where it lies in another one
			if got, n, e := Bounds(box(0, s), 1, along); got != nil || n != 0 || e != api.ErrNone {
				t.Errorf("Bounds of none %d, in a Box: %v, %d, %d", i, got, n, e)
			}
		}
	}
	// a Box that could, in one that is not there, or can't hold
	for i, s := range []api.Spec{hidden(box(0, two())), wrapped(box(0, two()), half()), wrapped(stack(two()), hide(api.Holds)), box(0, hidden(stack(two())))} {
		node := len(s.Nodes) - 3
		if got, n, e := Bounds(s, node, true); got != nil || n != 0 || e != api.ErrNone {
			t.Errorf("Bounds of what is not there %d: %v, %d, %d", i, got, n, e)
		}
	}
}

// P12.7: the last of the least numbers is what the kids need together, which with twice the pad is no more than the node's need.
func TestLeastOfBounds(t *testing.T) {
	for name, x := range map[string]struct {
		s    api.Spec
		want api.Size
		pads int
	}{
		"B":                  {two(), api.Size{W: 4, H: 1}, 0},
		"V":                  {column(two()), api.Size{W: 2, H: 3}, 0},
		"with pads":          {wrapped(two(), pad(2), pad(1)), api.Size{W: 4, H: 1}, 6},
		"with a Min":         {atLeast(wrapped(column(two()), pad(1)), 30, 40), api.Size{W: 2, H: 3}, 2},
		"great things":       {box(1, thing(100, 20), thing(300, 70), thing(0, 0)), api.Size{W: 402, H: 70}, 0},
		"as great as may be": {column(box(4, thing(side, side-9), thing(0, 5))), api.Size{W: side, H: side}, 0},
	} {
		needs, e := Need(x.s)
		if e != api.OK {
			t.Fatalf("Need of %s: %d", name, e)
		}
		last := func(along bool) int {
			l, n, e := Bounds(x.s, 0, along)
			if e != api.OK {
				t.Fatalf("Bounds of %s: %d", name, e)
			}
			at, e := least.Solve(n, l)
			if e != api.OK {
				t.Fatalf("Solve of %s: %d", name, e)
			}
			return at[n-1]
		}
		upright := x.s.Nodes[0].Column
		if got := (api.Size{W: last(!upright), H: last(upright)}); got != x.want || got.W+x.pads > needs[0].W || got.H+x.pads > needs[0].H {
			t.Errorf("the least of %s: %v, of %v", name, got, needs[0])
		}
	}
}
