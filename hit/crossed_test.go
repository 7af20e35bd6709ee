package hit

import (
	"math"
	"slices"
	"testing"

	"casement/api"
)

// family is a tree in which kids are told the other way round:
//
//	0 holds 5, 1 and 2; 1 holds 6 and 3; 3 holds 4; 5 holds 7
func family() api.Spec {
	return api.Spec{Nodes: []api.Node{
		{Kind: api.Box, Kids: []int{5, 1, 2}}, {Kind: api.Grid, Kids: []int{6, 3}}, {Kind: api.Label}, {Kind: api.Scroll, Kids: []int{4}},
		{Kind: api.Button}, {Kind: api.Stack, Kids: []int{7}}, {Kind: api.Gap}, {Kind: api.Field},
	}}
}

// crosses asks who is left and entered, and for what follows.
func crosses(t *testing.T, s api.Spec, from, to int, left, entered []int) {
	t.Helper()
	gotLeft, gotEntered, e := Crossed(s, from, to)
	if !slices.Equal(gotLeft, left) || !slices.Equal(gotEntered, entered) || e != api.OK {
		t.Errorf("Crossed from %d to %d: %v and %v, %d; %v and %v", from, to, gotLeft, gotEntered, e, left, entered)
	}
	crossedAgrees(t, s, from, to)
}

// P20.3: the chapter's examples.
func TestExamplesOfCrossed(t *testing.T) {
	crosses(t, pair(), 1, 2, []int{1}, []int{2})
	crosses(t, pair(), 1, -1, []int{1, 0}, nil)
	crosses(t, pair(), -1, 2, nil, []int{0, 2})
	crosses(t, pair(), 0, 1, nil, []int{1})
	crosses(t, pair(), 1, 1, nil, nil)
	for _, node := range []int{3, -2} {
		if left, entered, e := Crossed(pair(), node, 0); left != nil || entered != nil || e != api.ErrNode {
			t.Errorf("Crossed from %d: %v and %v, %d", node, left, entered, e)
		}
	}
}

// P20.3, P20.7: to itself, to one above, one below, one of another branch, to nobody and from nobody.
func TestFamily(t *testing.T) {
	s := family()
	for node := -1; node < len(s.Nodes); node++ {
		crosses(t, s, node, node, nil, nil)
	}
	crosses(t, s, 4, 3, []int{4}, nil)
	crosses(t, s, 4, 1, []int{4, 3}, nil)
	crosses(t, s, 4, 0, []int{4, 3, 1}, nil)
	crosses(t, s, 4, -1, []int{4, 3, 1, 0}, nil)
	crosses(t, s, 3, 4, nil, []int{4})
	crosses(t, s, 1, 4, nil, []int{3, 4})
	crosses(t, s, 0, 4, nil, []int{1, 3, 4})
	crosses(t, s, -1, 4, nil, []int{0, 1, 3, 4})
	crosses(t, s, 4, 6, []int{4, 3}, []int{6})
	crosses(t, s, 6, 4, []int{6}, []int{3, 4})
	crosses(t, s, 4, 7, []int{4, 3, 1}, []int{5, 7})
	crosses(t, s, 7, 4, []int{7, 5}, []int{1, 3, 4})
	crosses(t, s, 2, 7, []int{2}, []int{5, 7})
	crosses(t, s, 7, 2, []int{7, 5}, []int{2})
	crosses(t, s, -1, 0, nil, []int{0})
	crosses(t, s, 0, -1, []int{0}, nil)
	crosses(t, one(api.Label), -1, 0, nil, []int{0})
	crosses(t, one(api.Label), 0, -1, []int{0}, nil)
	crosses(t, one(api.Label), 0, 0, nil, nil)
	crosses(t, one(api.Label), -1, -1, nil, nil)
}

// P20.3: paths are the tree's, whoever is there, can hold, or shows.
func TestCrossedOfThoseNotThere(t *testing.T) {
	for name, change := range map[string]func(n *api.Node){
		"hidden":     func(n *api.Node) { n.Hidden = true },
		"hollow":     func(n *api.Node) { n.Wraps = []api.Wrap{half()} },
		"can't hold": func(n *api.Node) { n.Wraps = []api.Wrap{hide(api.Holds)} },
		"too great":  func(n *api.Node) { n.Min = api.Size{W: side, H: side} },
	} {
		for node := range family().Nodes {
			s := changed(family(), node, change)
			for from := -1; from < len(s.Nodes); from++ {
				for to := -1; to < len(s.Nodes); to++ {
					left, entered, _ := Crossed(family(), from, to)
					if l, in, e := Crossed(s, from, to); !slices.Equal(l, left) || !slices.Equal(in, entered) || e != api.OK {
						t.Errorf("%s %d: Crossed from %d to %d: %v and %v, %d; %v and %v", name, node, from, to, l, in, e, left, entered)
					}
				}
			}
		}
	}
}

// P20.3: what a tree would need is not asked: it may be beyond all sides.
func TestCrossedOfTooGreat(t *testing.T) {
	crosses(t, box(thing(side, 0), thing(side, 0)), 1, 2, []int{1}, []int{2})
}

// P20.3: numbers below -1, the last one, as many as there are nodes, more.
func TestNumbersOfNodes(t *testing.T) {
	for _, s := range []api.Spec{one(api.Label), pair(), family()} {
		last := len(s.Nodes) - 1
		for node, want := range map[int]api.Errno{
			math.MinInt: api.ErrNode, -last - 1: api.ErrNode, -2: api.ErrNode, -1: api.OK, 0: api.OK, last: api.OK, last + 1: api.ErrNode, last + 2: api.ErrNode, math.MaxInt: api.ErrNode,
		} {
			if node == -1 {
				want = api.OK
			}
			if left, entered, e := Crossed(s, node, -1); e != want || left == nil && e == api.OK && node >= 0 || entered != nil {
				t.Errorf("Crossed from %d of %d nodes: %v and %v, %d", node, last+1, left, entered, e)
			}
			if left, entered, e := Crossed(s, -1, node); e != want || entered == nil && e == api.OK && node >= 0 || left != nil {
				t.Errorf("Crossed to %d of %d nodes: %v and %v, %d", node, last+1, left, entered, e)
			}
		}
	}
}
