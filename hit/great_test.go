package hit

import (
	"slices"
	"testing"

	"casement/api"
)

// upTo is the numbers from one to another one, down or up.
func upTo(from, to int) []int {
	l := []int{from}
	for from != to {
		if from < to {
			from++
		} else {
			from--
		}
		l = append(l, from)
	}
	return l
}

// P20.1, P20.2: as many nodes as may be, all over one another, on as many places as may be; and one more.
func TestMostNodes(t *testing.T) {
	const last = api.MaxNodes - 1
	s := stack(slices.Repeat([]api.Spec{thing(1, 1)}, last)...)
	r := rect(-7, 9, 512, 512)
	under(t, "a Stack of most", s, r, at(-7, 9), upTo(last, 0)...)
	under(t, "a Stack of most", s, r, at(504, 520), upTo(last, 0)...)
	under(t, "a Stack of most", s, r, at(505, 520))
	if tops, e := Map(s, r); len(tops) != api.MaxCells || slices.Min(tops) != last || slices.Max(tops) != last || e != api.OK {
		t.Errorf("Map: %d places, %d", len(tops), e)
	}
	more := stack(slices.Repeat([]api.Spec{thing(1, 1)}, last+1)...)
	if all, e := All(more, r, r.At); all != nil || e != api.ErrSpec {
		t.Errorf("one node more: %v, %d", all, e)
	}
	if tops, e := Map(more, r); tops != nil || e != api.ErrSpec {
		t.Errorf("one node more: %d places, %d", len(tops), e)
	}
}

// P20.2: each of most nodes on a place of its own.
func TestManyPlaces(t *testing.T) {
	const wide, high = 31, 33
	s := of(api.Node{Kind: api.Grid, Columns: wide}, slices.Repeat([]api.Spec{sized(1, 1)}, wide*high)...)
	tops, e := Map(s, rect(2, 3, wide, high))
	if !slices.Equal(tops, upTo(1, wide*high)) || e != api.OK {
		t.Errorf("%v, %d", tops, e)
	}
	under(t, "a Grid", s, rect(2, 3, wide, high), at(2+14, 3+20), 1+14+20*wide, 0)
}

// P20.1, P20.3: as deep as nodes may lie, and one deeper.
func TestDeepest(t *testing.T) {
	s := button("")
	for range api.MaxDepth - 1 {
		s = scroll(0, 0, s)
	}
	const last = api.MaxDepth - 1
	under(t, "the deepest", s, rect(0, 0, 9, 1), at(8, 0), upTo(last, 0)...)
	under(t, "one of them hidden", changed(s, 30, func(n *api.Node) { n.Hidden = true }), rect(0, 0, 9, 1), at(8, 0), upTo(29, 0)...)
	crosses(t, s, last, -1, upTo(last, 0), nil)
	crosses(t, s, -1, last, nil, upTo(0, last))
	crosses(t, s, last, 30, upTo(last, 31), nil)
	crosses(t, s, 30, last, nil, upTo(31, last))
	branch := button("")
	for range api.MaxDepth - 2 {
		branch = scroll(0, 0, branch)
	}
	two := stack(branch, branch)
	crosses(t, two, last, 2*last, upTo(last, 1), upTo(last+1, 2*last))
	deeper := scroll(0, 0, s)
	if all, e := All(deeper, rect(0, 0, 9, 1), at(8, 0)); all != nil || e != api.ErrSpec {
		t.Errorf("one deeper: %v, %d", all, e)
	}
	if left, entered, e := Crossed(deeper, last+1, -1); left != nil || entered != nil || e != api.ErrSpec {
		t.Errorf("one deeper: %v and %v, %d", left, entered, e)
	}
}

// P20.3: the last ones of as many nodes as may be.
func TestCrossedOfMost(t *testing.T) {
	const last = api.MaxNodes - 1
	s := stack(slices.Repeat([]api.Spec{thing(1, 1)}, last)...)
	crosses(t, s, last, 1, []int{last}, []int{1})
	crosses(t, s, last-1, last, []int{last - 1}, []int{last})
	crosses(t, s, -1, last, nil, []int{0, last})
	if left, entered, e := Crossed(s, last+1, 0); left != nil || entered != nil || e != api.ErrNode {
		t.Errorf("from one more: %v and %v, %d", left, entered, e)
	}
	if left, entered, e := Crossed(s, 0, last+1); left != nil || entered != nil || e != api.ErrNode {
		t.Errorf("to one more: %v and %v, %d", left, entered, e)
	}
}
