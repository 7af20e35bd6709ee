package hit

import (
	"math"
	"slices"
	"strings"
	"testing"

	"casement/api"
)

const side = api.MaxSide

func rect(x, y, w, h int) api.Rect {
	return api.Rect{At: api.Point{X: x, Y: y}, Size: api.Size{W: w, H: h}}
}

func at(x, y int) api.Point { return api.Point{X: x, Y: y} }

// of is a node with those that it holds, each a spec of its own: numbered as the walk goes.
func of(n api.Node, kids ...api.Spec) api.Spec {
	s := api.Spec{Nodes: []api.Node{n}}
	for _, kid := range kids {
		first := len(s.Nodes)
		s.Nodes[0].Kids = append(s.Nodes[0].Kids, first)
		for _, n := range kid.Nodes {
			n.Kids = slices.Clone(n.Kids)
			for i := range n.Kids {
				n.Kids[i] += first
			}
			s.Nodes = append(s.Nodes, n)
		}
	}
	return s
}

func one(kind uint8) api.Spec           { return of(api.Node{Kind: kind}) }
func label(text string) api.Spec        { return of(api.Node{Kind: api.Label, Text: text}) }
func button(text string) api.Spec       { return of(api.Node{Kind: api.Button, Text: text}) }
func thing(w, h int) api.Spec           { return of(api.Node{Kind: api.Gap, Min: api.Size{W: w, H: h}}) }
func box(kids ...api.Spec) api.Spec     { return of(api.Node{Kind: api.Box}, kids...) }
func columns(kids ...api.Spec) api.Spec { return of(api.Node{Kind: api.Box, Column: true}, kids...) }
func stack(kids ...api.Spec) api.Spec   { return of(api.Node{Kind: api.Stack}, kids...) }

func grids(n int, kids ...api.Spec) api.Spec {
	return of(api.Node{Kind: api.Grid, Columns: n, Gap: 1}, kids...)
}

func scroll(x, y int, kids ...api.Spec) api.Spec {
	return of(api.Node{Kind: api.Scroll, Off: api.Point{X: x, Y: y}}, kids...)
}

// sized is a thing that is just so great, however much room there is.
func sized(w, h int) api.Spec {
	return with(thing(w, h), func(n *api.Node) { n.Max = n.Min })
}

// with is a spec whose root was changed.
func with(s api.Spec, change func(n *api.Node)) api.Spec { return changed(s, 0, change) }

// changed is a spec of which one node was changed.
func changed(s api.Spec, node int, change func(n *api.Node)) api.Spec {
	s.Nodes = slices.Clone(s.Nodes)
	change(&s.Nodes[node])
	return s
}

func wrapped(s api.Spec, l ...api.Wrap) api.Spec {
	return with(s, func(n *api.Node) { n.Wraps = l })
}
func hidden(s api.Spec) api.Spec { return with(s, func(n *api.Node) { n.Hidden = true }) }
func ordered(s api.Spec, order int) api.Spec {
	return with(s, func(n *api.Node) { n.Order = order })
}

func pad(n int) api.Wrap        { return api.Wrap{Kind: api.WrapPad, Number: n} }
func hide(mask uint16) api.Wrap { return api.Wrap{Kind: api.WrapHide, Mask: mask} }
func only(mask uint16) api.Wrap { return api.Wrap{Kind: api.WrapOnly, Mask: mask} }
func half() api.Wrap            { return api.Wrap{Kind: api.WrapHalf} }
func focusing(n int) api.Wrap   { return api.Wrap{Kind: api.WrapFocus, Number: n} }
func called(s string) api.Wrap  { return api.Wrap{Kind: api.WrapName, Text: s} }
func dropping() api.Wrap        { return api.Wrap{Kind: api.WrapDrop, Text: "file"} }

// pair is the chapter's B.
func pair() api.Spec {
	return of(api.Node{Kind: api.Box, Gap: 1}, label("ab"), button("ok"))
}

// pile is the chapter's S.
func pile() api.Spec { return stack(label("ab"), one(api.Gap)) }

// under asks which nodes lie at a point, and beside it At for the first one of them.
func under(t *testing.T, name string, s api.Spec, r api.Rect, p api.Point, want ...int) {
	t.Helper()
	all, e := All(s, r, p)
	if !slices.Equal(all, want) || e != api.OK {
		t.Errorf("All of %s in %v at %v: %v, %d; %v", name, r, p, all, e, want)
	}
	top, is, e := At(s, r, p)
	if wantTop := append(slices.Clone(want), 0)[0]; top != wantTop || is != (len(want) > 0) || e != api.OK {
		t.Errorf("At of %s in %v at %v: %d, %v, %d; %v", name, r, p, top, is, e, want)
	}
}

// mapped asks for a map, told as rows of the nodes' numbers; a point is none.
func mapped(t *testing.T, name string, s api.Spec, r api.Rect, rows ...string) {
	t.Helper()
	var want []int
	for _, row := range rows {
		for _, c := range row {
			want = append(want, strings.IndexRune("0123456789abcdefghijklmnop", c))
		}
	}
	if got, e := Map(s, r); !slices.Equal(got, want) || e != api.OK {
		t.Errorf("Map of %s in %v: %v, %d; %v", name, r, got, e, want)
	}
	agree(t, s, r)
}

// P20.1: the chapter's examples.
func TestExamples(t *testing.T) {
	r := rect(0, 0, 10, 1)
	under(t, "B", pair(), r, at(0, 0), 1, 0)
	under(t, "B", pair(), r, at(2, 0), 0)
	under(t, "B", pair(), r, at(3, 0), 2, 0)
	under(t, "B", pair(), r, at(9, 0), 0)
	under(t, "B", pair(), r, at(10, 0))
	under(t, "S", pile(), rect(0, 0, 4, 1), at(1, 0), 2, 1, 0)
}

// P20.1: the root alone, of all kinds, at its edges and just outside: what a node can counts for nothing.
func TestRootAlone(t *testing.T) {
	for _, r := range []api.Rect{rect(0, 0, 3, 2), rect(5, 7, 3, 2), rect(-9, -8, 3, 2), rect(-side, -side, 3, 2), rect(side-3, side-2, 3, 2), rect(-1, -1, 3, 2)} {
		x, y := r.At.X, r.At.Y
		for kind := api.Label; kind <= api.Stack; kind++ {
			for name, s := range map[string]api.Spec{
				"one": one(kind), "one that can do nothing": wrapped(one(kind), only(0)), "one that needs more": with(one(kind), func(n *api.Node) { n.Min = api.Size{W: 8, H: 8} }),
				"one that may not be as great": with(one(kind), func(n *api.Node) { n.Max = api.Size{W: 1, H: 1} }), "one that pads": wrapped(one(kind), pad(9)),
			} {
				for _, p := range []api.Point{at(x, y), at(x+2, y), at(x, y+1), at(x+2, y+1), at(x+1, y+1)} {
					under(t, name, s, r, p, 0)
				}
				for _, p := range []api.Point{at(x-1, y), at(x, y-1), at(x+3, y), at(x, y+2), at(x+3, y+1), at(x+2, y+2), at(x-1, y+1), at(x+2, y-1), at(x-1, y-1), at(x+3, y+2)} {
					under(t, name, s, r, p)
				}
			}
			under(t, "one that is hidden", hidden(one(kind)), r, at(x, y))
			under(t, "a half", wrapped(one(kind), half()), r, at(x, y))
			under(t, "a half within another wrapper", wrapped(one(kind), half(), pad(0)), r, at(x, y), 0)
		}
	}
}

// P20.1: points as far off as numbers go are none of a place; not those either that would be, if a number wrapped round.
func TestFarPoints(t *testing.T) {
	s := stack(thing(1, 1), scroll(0, 0, thing(9, 9)))
	for _, r := range []api.Rect{rect(0, 0, 4, 4), rect(-side, -side, 2*side, 2*side), rect(-side, -side, 4, 4), rect(side-9, side-9, 9, 9)} {
		for _, far := range []int{math.MinInt, math.MinInt + 1, math.MaxInt, math.MaxInt - 1, math.MinInt32, math.MaxInt32, 1 << 32, -1 << 32, 1<<32 + r.At.X, r.At.X - 1<<32, side, side + 1, -side - 1, math.MinInt + side, math.MaxInt - side} {
			for _, p := range []api.Point{at(far, r.At.Y), at(r.At.X, far), at(far, far), at(far, -far)} {
				under(t, "a Stack", s, r, p)
			}
		}
	}
}

// P20.1: both ends of all places.
func TestEndsOfAllPlaces(t *testing.T) {
	all := rect(-side, -side, 2*side, 2*side)
	s := stack(sized(1, 1), thing(2*side-1-side, 1))
	under(t, "a Stack", s, all, at(-side, -side), 2, 1, 0)
	under(t, "a Stack", s, all, at(1-side, -side), 2, 0)
	under(t, "a Stack", s, all, at(side-1, side-1), 2, 0)
	under(t, "a Stack", s, all, at(side-1, -side), 2, 0)
	under(t, "a Stack", s, all, at(-side, side-1), 2, 0)
	under(t, "a Stack", s, all, at(side, side-1))
	under(t, "a Stack", s, all, at(side-1, side))
	under(t, "a Stack", s, all, at(-side-1, -side))
	under(t, "a Stack", s, all, at(-side, -side-1))
}

// P20.1, P20.2: kids over one another: the last one of the walk lies above, whatever it asks for, of like Orders and of others, wherever it is told.
func TestPiles(t *testing.T) {
	r := rect(0, 0, 4, 2)
	under(t, "three", stack(thing(1, 1), thing(1, 1), thing(1, 1)), r, at(0, 0), 3, 2, 1, 0)
	under(t, "three, of other Orders", stack(ordered(thing(1, 1), 9), ordered(thing(1, 1), 3), ordered(thing(1, 1), -1)), r, at(3, 1), 3, 2, 1, 0)
	under(t, "three, of Orders that grow", stack(ordered(button(""), 1), ordered(button(""), 2), ordered(button(""), 3)), r, at(0, 0), 3, 2, 1, 0)
	mapped(t, "the least one above", stack(thing(1, 1), sized(2, 1), sized(1, 1)), r, "3211", "1111")
	mapped(t, "the least one below", stack(sized(1, 1), sized(2, 1), thing(1, 1)), r, "3333", "3333")
	mapped(t, "piles in a pile", stack(stack(thing(1, 1), sized(3, 1)), stack(sized(2, 2), sized(1, 1))), r, "6544", "5544")
	// of the numbers the first two kids are the other way round: who is told last in Kids lies above
	turned := changed(stack(sized(3, 1), sized(2, 2), sized(1, 1)), 0, func(n *api.Node) { n.Kids = []int{3, 2, 1} })
	mapped(t, "the other way round", turned, r, "1110", "2200")
	under(t, "the other way round", turned, r, at(0, 0), 1, 2, 3, 0)
	under(t, "the other way round", turned, r, at(0, 1), 2, 0)
}

// P20.1: the walk, not the numbers, tells what lies above: a kid of a node with a great number comes ahead of the next kid of a lesser one.
func TestWalkAgainstNumbers(t *testing.T) {
	deep := api.Spec{Nodes: []api.Node{
		{Kind: api.Stack, Kids: []int{2, 1}},
		{Kind: api.Stack, Kids: []int{4}},
		{Kind: api.Stack, Kids: []int{5, 3}},
		{Kind: api.Gap}, {Kind: api.Gap}, {Kind: api.Gap},
	}}
	under(t, "six", deep, rect(2, 2, 1, 1), at(2, 2), 4, 1, 3, 5, 2, 0)
	chain := api.Spec{Nodes: []api.Node{
		{Kind: api.Box, Kids: []int{3}}, {Kind: api.Gap, Grow: 1}, {Kind: api.Box, Grow: 1, Kids: []int{1}}, {Kind: api.Scroll, Grow: 1, Kids: []int{2}},
	}}
	if l, e := All(chain, rect(0, 0, 1, 1), at(0, 0)); e != api.ErrSpec || l != nil {
		t.Errorf("a kid of a lesser number: %v, %d", l, e)
	}
}

// P20.1, P20.2: rows, columns, grids: gaps and what is left are the holder's.
func TestHolders(t *testing.T) {
	row := of(api.Node{Kind: api.Box, Gap: 2}, sized(1, 1), sized(2, 2), sized(1, 3))
	mapped(t, "a row", row, rect(0, 0, 9, 3), "100220030", "000220030", "000000030")
	mapped(t, "a row elsewhere", row, rect(-3, 9, 9, 3), "100220030", "000220030", "000000030")
	mapped(t, "a row cut", row, rect(0, 0, 5, 2), "10022", "00022")
	down := of(api.Node{Kind: api.Box, Gap: 1, Column: true}, sized(1, 1), sized(3, 1), sized(2, 2))
	mapped(t, "a column", down, rect(1, 1, 4, 6), "1000", "0000", "2220", "0000", "3300", "3300")
	mapped(t, "a grid", grids(2, sized(2, 1), sized(1, 1), with(sized(4, 1), func(n *api.Node) { n.Span = 2 })), rect(0, 0, 4, 3), "1102", "0000", "3333")
	mapped(t, "a grid that has more room", grids(2, sized(2, 1), sized(1, 1), with(sized(4, 1), func(n *api.Node) { n.Span = 2 })), rect(0, 0, 6, 4), "110020", "000000", "000000", "333300")
	mapped(t, "a Box in a Box", box(box(sized(1, 1), sized(1, 1)), sized(1, 2)), rect(0, 0, 4, 2), "2340", "1140")
}

// P20.1, P20.2: pads are the node's own, and cut what it holds.
func TestPads(t *testing.T) {
	mapped(t, "a pad", wrapped(box(thing(1, 1)), pad(1)), rect(0, 0, 4, 3), "0000", "0100", "0000")
	mapped(t, "a pad about one that has more room", wrapped(stack(thing(1, 1)), pad(1)), rect(0, 0, 4, 3), "0000", "0110", "0000")
	mapped(t, "two pads", wrapped(stack(thing(1, 1)), pad(1), focusing(1), pad(1)), rect(0, 0, 5, 5), "00000", "00000", "00100", "00000", "00000")
	mapped(t, "what needs more than the pad leaves", wrapped(stack(thing(9, 9)), pad(1)), rect(0, 0, 4, 3), "0000", "0110", "0000")
	mapped(t, "a pad that leaves nothing", wrapped(stack(thing(9, 9)), pad(2)), rect(0, 0, 4, 3), "0000", "0000", "0000")
	mapped(t, "a kid that pads", box(wrapped(label("a"), pad(1)), sized(1, 1)), rect(0, 0, 5, 3), "11120", "11100", "11100")
}

// P20.1, P20.2: in a Scroll what lies within its rectangle, and no more; at each edge of the clip.
func TestScrolls(t *testing.T) {
	mapped(t, "a Scroll", stack(with(scroll(2, 1, grids(3, sized(1, 1), sized(1, 1), sized(1, 1), sized(1, 1), sized(1, 1), sized(1, 1))), func(n *api.Node) { n.Max = api.Size{W: 3, H: 2} })), rect(0, 0, 5, 3), "22200", "72800", "00000")
	inner := with(scroll(3, 2, thing(9, 9)), func(n *api.Node) { n.Min, n.Max = api.Size{W: 4, H: 3}, api.Size{W: 4, H: 3} })
	s := wrapped(stack(inner), pad(2))
	r := rect(10, 10, 9, 9)
	under(t, "the first place", s, r, at(12, 12), 2, 1, 0)
	under(t, "the last place", s, r, at(15, 14), 2, 1, 0)
	for _, p := range []api.Point{at(11, 12), at(12, 11), at(16, 14), at(15, 15), at(16, 12), at(12, 15)} {
		under(t, "just outside", s, r, p, 0)
	}
	under(t, "what scrolls nowhere", scroll(9, 9, sized(2, 1)), rect(0, 0, 3, 2), at(1, 0), 1, 0)
	under(t, "what scrolls nowhere", scroll(9, 9, sized(2, 1)), rect(0, 0, 3, 2), at(2, 0), 0)
	under(t, "at the end", scroll(9, 9, box(sized(3, 1), sized(4, 1))), rect(0, 0, 4, 1), at(0, 0), 3, 1, 0)
	under(t, "scrolled by one", scroll(1, 0, box(sized(3, 1), sized(4, 1))), rect(0, 0, 4, 1), at(1, 0), 2, 1, 0)
	under(t, "scrolled by one", scroll(1, 0, box(sized(3, 1), sized(4, 1))), rect(0, 0, 4, 1), at(2, 0), 3, 1, 0)
	mapped(t, "a Scroll in a Scroll", scroll(1, 0, with(scroll(2, 0, box(sized(3, 1), sized(5, 1))), func(n *api.Node) { n.Min, n.Max = api.Size{W: 5, H: 1}, api.Size{W: 5, H: 1} })), rect(0, 0, 4, 1), "4444")
}

// P20.1: a kid can lie beyond its holder's end: there it does not show, nor does what it holds.
func TestBeyondTheHolder(t *testing.T) {
	long := box(sized(3, 1), box(sized(2, 1), sized(2, 1)))
	mapped(t, "cut in a kid", long, rect(0, 0, 4, 1), "1113")
	mapped(t, "cut at a kid", long, rect(0, 0, 3, 1), "111")
	mapped(t, "cut in the first", long, rect(0, 0, 2, 1), "11")
	under(t, "behind the end", long, rect(0, 0, 4, 1), at(4, 0))
	under(t, "behind the end of the clip, in the place", box(with(box(thing(6, 1)), func(n *api.Node) { n.Min.W = 2 })), rect(0, 0, 3, 1), at(3, 0))
}

// P20.1: who is not there does not lie anywhere, nor does what it would hold; who can't hold lies there alone.
func TestNotThere(t *testing.T) {
	r := rect(0, 0, 4, 2)
	inner := func() api.Spec { return stack(thing(1, 1)) }
	under(t, "all there", stack(thing(1, 1), inner()), r, at(0, 0), 3, 2, 1, 0)
	under(t, "hidden", stack(thing(1, 1), hidden(inner())), r, at(0, 0), 1, 0)
	under(t, "hollow", stack(thing(1, 1), wrapped(inner(), half())), r, at(0, 0), 1, 0)
	under(t, "can't hold", stack(thing(1, 1), wrapped(inner(), hide(api.Holds))), r, at(0, 0), 2, 1, 0)
	under(t, "can do other things alone", stack(thing(1, 1), wrapped(inner(), only(api.Measures|api.Paints|api.Focuses|api.Scrolls|api.Accepts))), r, at(0, 0), 2, 1, 0)
	under(t, "a half within", stack(thing(1, 1), wrapped(inner(), half(), called("a"))), r, at(0, 0), 2, 1, 0)
	under(t, "can't measure", stack(thing(1, 1), wrapped(inner(), hide(api.Measures))), r, at(0, 0), 3, 2, 1, 0)
	under(t, "the root can't hold", wrapped(inner(), hide(api.Holds)), r, at(0, 0), 0)
	under(t, "the root is hidden", hidden(inner()), r, at(0, 0))
	under(t, "the root is hollow", wrapped(inner(), half()), r, at(0, 0))
	under(t, "the first one hidden", stack(hidden(thing(1, 1)), inner()), r, at(0, 0), 3, 2, 0)
	mapped(t, "the root is hidden", hidden(inner()), r, "....", "....")
	mapped(t, "a hidden one leaves no room", box(sized(1, 1), hidden(sized(1, 1)), sized(1, 2)), r, "1300", "0300")
}

// P20.1: there, but shown nowhere: no place of its own, or none in its clip.
func TestNotShown(t *testing.T) {
	r := rect(0, 0, 4, 2)
	flat := func(w, h int) api.Spec { // a Box cuts across, a Max of 0 is any: what has no breadth lies along it
		return with(thing(w, h), func(n *api.Node) { n.Max = api.Size{W: w, H: h} })
	}
	under(t, "of no breadth", box(flat(0, 2), flat(2, 1)), r, at(0, 0), 2, 0)
	under(t, "of no height", columns(flat(2, 0), flat(1, 1)), r, at(0, 0), 2, 0)
	under(t, "of no breadth, at the end", box(sized(4, 1), flat(0, 2)), r, at(3, 1), 0)
	under(t, "scrolled out above", scroll(0, 3, columns(sized(4, 1), sized(4, 4))), r, at(0, 0), 3, 1, 0)
	under(t, "below the end", scroll(0, 0, columns(sized(4, 2), sized(4, 4))), r, at(0, 1), 2, 1, 0)
	under(t, "below the end", scroll(0, 0, columns(sized(4, 2), sized(4, 4))), r, at(0, 2))
	under(t, "nothing left for it", stack(wrapped(stack(thing(9, 9)), pad(8))), r, at(0, 0), 1, 0)
}

// P20.1: a rectangle without a place shows nobody.
func TestEmptyRectangles(t *testing.T) {
	for _, r := range []api.Rect{{}, rect(0, 0, 0, 5), rect(0, 0, 5, 0), rect(7, -7, 0, 1), rect(side, 0, 0, 0), rect(-side, -side, 0, 2*side), rect(-side, -side, 2*side, 0)} {
		for name, s := range map[string]api.Spec{"one": one(api.Label), "a Stack of nothing": stack(), "a Scroll": scroll(0, 0)} {
			for _, p := range []api.Point{r.At, {}, at(r.At.X-1, r.At.Y), at(r.At.X, r.At.Y+1)} {
				under(t, name, s, r, p)
			}
			mapped(t, name, s, r)
		}
	}
}
