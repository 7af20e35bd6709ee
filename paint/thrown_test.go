package paint

import (
	"math/rand"
	"slices"
	"testing"

	"casement/api"
	"casement/layout"
	"casement/list"
	"casement/style"
	"casement/tree"
)

// dealt is a node by chance.
func dealt(r *rand.Rand) api.Node {
	texts := []string{"", "a", "window", "ab\ncde", "\n", "\u4e00"}
	classes := []string{"", "big", "small", "small big", " bigger "}
	n := api.Node{
		Kind: 1 + uint8(r.Intn(10)), Text: texts[r.Intn(len(texts))], Class: classes[r.Intn(len(classes))],
		Grow: max(r.Intn(6)-2, 0), Column: r.Intn(2) > 0, Columns: r.Intn(4), Span: r.Intn(3), Gap: max(r.Intn(5)-2, 0),
		Off: api.Point{X: r.Intn(6), Y: r.Intn(6)}, Hidden: r.Intn(14) == 0,
	}
	if r.Intn(2) == 0 {
		n.Min = api.Size{W: r.Intn(9), H: r.Intn(9)}
	}
	for r.Intn(3) == 0 {
		n.Wraps = append(n.Wraps, dealtWrap(r))
	}
	return n
}

func dealtWrap(r *rand.Rand) api.Wrap {
	switch r.Intn(10) {
	case 0:
		return hide(uint16(r.Intn(64)))
	case 1:
		return only(uint16(r.Intn(64)) | api.Holds)
	case 2:
		return hide(api.Paints)
	case 3:
		return focus()
	case 4:
		return api.Wrap{Kind: api.WrapDrop, Text: "file"}
	case 5:
		return half()
	case 6:
		return api.Wrap{Kind: api.WrapName, Text: "b"}
	}
	return pad(r.Intn(4))
}

// thrown is a spec by chance, of at most so many nodes, whose kids stand in any order.
func thrown(r *rand.Rand, count int) api.Spec {
	s := api.Spec{Nodes: []api.Node{dealt(r)}}
	if r.Intn(8) > 0 {
		s.Nodes[0].Kind, s.Nodes[0].Hidden, s.Nodes[0].Wraps = []uint8{api.Box, api.Grid, api.Stack, api.Scroll}[r.Intn(4)], false, nil
	}
	for len(s.Nodes) < count {
		n := &s.Nodes[r.Intn(len(s.Nodes))]
		if holder := n.Kind == api.Box || n.Kind == api.Grid || n.Kind == api.Stack; !holder && (n.Kind != api.Scroll || len(n.Kids) > 0) {
			count--
			continue
		}
		n.Kids = slices.Insert(n.Kids, r.Intn(len(n.Kids)+1), len(s.Nodes))
		kid := dealt(r)
		if r.Intn(3) == 0 {
			kid.Kind = api.Box
		}
		s.Nodes = append(s.Nodes, kid)
	}
	return s
}

// thrownTheme is rules by chance; those of no state alone, if stateless.
func thrownTheme(r *rand.Rand, stateless bool) []api.Rule {
	var l []api.Rule
	colours := []api.Colour{red, green, blue, white, none, {G: 9, A: 100}}
	for range r.Intn(8) {
		rule := api.Rule{Kind: uint8(max(r.Intn(20)-9, 0)), Class: []string{"", "", "big", "small"}[r.Intn(4)]}
		if !stateless {
			rule.State = uint8(r.Intn(16) & r.Intn(16))
		}
		look := api.Look{Has: uint8(r.Intn(16) | r.Intn(16)), Colour: colours[r.Intn(6)], Back: colours[r.Intn(6)], Border: r.Intn(2) > 0, Pad: r.Intn(3)}
		rule.Look = style.Under(look, api.Look{}) // what is not told is zero then
		l = append(l, rule)
	}
	return l
}

func thrownStates(r *rand.Rand, count int) []uint8 {
	states := make([]uint8, r.Intn(count+1))
	for i := range states {
		states[i] = uint8(r.Intn(256)) & uint8(r.Intn(256))
	}
	return states
}

// agree asks all calls for what the models answer.
func agree(t *testing.T, s api.Spec, r api.Rect, rules []api.Rule, states []uint8) {
	t.Helper()
	got, e := Looks(s, rules, states)
	if want := modelLooks(s, rules, states); !slices.Equal(got, want) || e != api.OK {
		t.Fatalf("Looks(%v, %v, %v): %v, %d; %v", s, rules, states, got, e, want)
	}
	order, e := Order(s, r)
	if want, wantE := modelOrder(s, r); !slices.Equal(order, want) || e != wantE {
		t.Fatalf("Order(%v, %v): %v, %d; %v, %d", s, r, order, e, want, wantE)
	}
	pieces, wantE := modelPieces(s, r, rules, states)
	for node, want := range pieces {
		if one, e := Part(s, r, rules, states, node); !slices.Equal(one, want) || e != wantE {
			t.Fatalf("Part(%v, %v, %v, %v, %d): %v, %d; %v, %d", s, r, rules, states, node, one, e, want, wantE)
		}
	}
	var want []api.Stroke
	for _, node := range order {
		want = append(want, pieces[node]...)
	}
	if drawn, e := Draw(s, r, rules, states); !slices.Equal(drawn, want) || e != wantE {
		t.Fatalf("Draw(%v, %v, %v, %v): %v, %d; %v, %d", s, r, rules, states, drawn, e, want, wantE)
	}
}

// followsOfList: P14.5.
func followsOfList(t *testing.T, s api.Spec, r api.Rect, rules []api.Rule, states []uint8) {
	t.Helper()
	drawn, e := Draw(s, r, rules, states)
	if e != api.OK {
		return
	}
	if e := list.Check(drawn); e != api.OK {
		t.Fatalf("Draw(%v, %v, %v, %v): %v is no drawing list: %d", s, r, rules, states, drawn, e)
	}
	order, _ := Order(s, r)
	places, _ := layout.Places(s, r)
	var all []api.Stroke
	for _, node := range order {
		one, e := Part(s, r, rules, states, node)
		if e != api.OK {
			t.Fatalf("Part(%v, %v, %v, %v, %d): %d", s, r, rules, states, node, e)
		}
		wellFormed(t, one, places[node])
		all = append(all, one...)
	}
	if !slices.Equal(all, drawn) {
		t.Fatalf("Draw(%v, %v, %v, %v): %v; all Parts: %v", s, r, rules, states, drawn, all)
	}
	strokes, at, _ := list.Flat(drawn)
	for i, stroke := range strokes {
		if place := places[stroke.Node]; at[i] != (api.Rect{}) && !lies(at[i], place.Clip) {
			t.Fatalf("Draw(%v, %v, %v, %v): %v shows in %v, outside of %v", s, r, rules, states, stroke, at[i], place.Clip)
		}
	}
}

// lies tells whether a rectangle lies in another one.
func lies(r, in api.Rect) bool {
	return r.At.X >= in.At.X && r.At.Y >= in.At.Y && r.At.X+r.Size.W <= in.At.X+in.Size.W && r.At.Y+r.Size.H <= in.At.Y+in.Size.H
}

// wellFormed: a piece is nothing, or a Clip, from one to three strokes, and an Open, all of the node.
func wellFormed(t *testing.T, l []api.Stroke, place api.Place) {
	t.Helper()
	if len(l) == 0 {
		return
	}
	last := len(l) - 1
	if last < 2 || last > 4 || l[0] != (api.Stroke{Kind: api.Clip, Rect: place.Clip, Node: place.Node}) || l[last] != (api.Stroke{Kind: api.Open, Node: place.Node}) {
		t.Fatalf("%v is no piece at %v", l, place)
	}
	for _, stroke := range l[1:last] {
		if stroke.Kind > api.Write || stroke.Node != place.Node || !lies(stroke.Rect, place.Rect) {
			t.Fatalf("%v: %v at %v", l, stroke, place)
		}
	}
}

// followsOfStates: P14.6.
func followsOfStates(t *testing.T, r *rand.Rand, s api.Spec, room api.Rect, rules []api.Rule, states []uint8) {
	t.Helper()
	order, e := Order(s, room)
	if e != api.OK {
		return
	}
	others := slices.Clone(states)
	for i := range others {
		if r.Intn(3) == 0 {
			others[i] ^= uint8(r.Intn(256))
		}
	}
	for node := range s.Nodes {
		one, _ := Part(s, room, rules, states, node)
		two, _ := Part(s, room, rules, others, node)
		if same := node >= len(states) || states[node] == others[node]; same && !slices.Equal(one, two) {
			t.Fatalf("Part(%v, %v, %v, .., %d): with %v %v, with %v %v", s, room, rules, node, states, one, others, two)
		}
		if !slices.Contains(order, node) && len(one) > 0 {
			t.Fatalf("Part(%v, %v, %v, %v, %d): %v, but it is not in %v", s, room, rules, states, node, one, order)
		}
	}
}

// P14.1 to P14.6
func TestThrown(t *testing.T) {
	r := rand.New(rand.NewSource(140))
	seen := map[string]int{}
	for range 2500 {
		s := thrown(r, 1+r.Intn(12))
		if e := tree.Check(s); e != api.OK {
			t.Fatalf("%v may not be", s)
		}
		rules, states := thrownTheme(r, false), thrownStates(r, len(s.Nodes))
		rooms := []api.Rect{
			rect(r.Intn(41)-20, r.Intn(41)-20, r.Intn(60), r.Intn(40)),
			rect(r.Intn(41)-20, r.Intn(41)-20, r.Intn(8), r.Intn(8)),
			rect(side-r.Intn(30), side-r.Intn(30), 0, 0), // some of what lies there would lie beyond
		}
		for _, room := range rooms {
			agree(t, s, room, rules, states)
			followsOfList(t, s, room, rules, states)
			followsOfStates(t, r, s, room, rules, states)
		}
		count(s, rooms, rules, states, seen)
	}
	for _, what := range []string{"beyond", "nothing", "3", "4", "5", "not shown", "paints none", "paints, no strokes", "in another order"} {
		if seen[what] < 100 {
			t.Errorf("%s: only %d", what, seen[what])
		}
	}
}

// count counts what was thrown, so that nothing is left out by chance.
func count(s api.Spec, rooms []api.Rect, rules []api.Rule, states []uint8, seen map[string]int) {
	for _, room := range rooms {
		order, e := Order(s, room)
		switch {
		case e != api.OK:
			seen["beyond"]++
			continue
		case len(order) == 0:
			seen["nothing"]++
		case !slices.IsSorted(order):
			seen["in another order"]++
		}
		seen["not shown"] += len(s.Nodes) - len(order)
		for _, node := range order {
			l, _ := Part(s, room, rules, states, node)
			switch {
			case len(l) > 0:
				seen[[]string{3: "3", 4: "4", 5: "5"}[len(l)]]++
			case modelPaints(s.Nodes[node]):
				seen["paints, no strokes"]++
			default:
				seen["paints none"]++
			}
		}
	}
}

// P14.6: without rules whose State is not 0 the list hangs on no state.
func TestThrownStateless(t *testing.T) {
	r := rand.New(rand.NewSource(141))
	drawn := 0
	for range 1500 {
		s := thrown(r, 1+r.Intn(12))
		rules := thrownTheme(r, true)
		room := rect(0, 0, r.Intn(60), r.Intn(40))
		want, e := Draw(s, room, rules, nil)
		plain, _ := Looks(s, rules, nil)
		for range 3 {
			states := thrownStates(r, len(s.Nodes))
			if got, e2 := Draw(s, room, rules, states); !slices.Equal(got, want) || e2 != e {
				t.Fatalf("Draw(%v, %v, %v, %v): %v, %d; %v, %d", s, room, rules, states, got, e2, want, e)
			}
			if got, _ := Looks(s, rules, states); !slices.Equal(got, plain) {
				t.Fatalf("Looks(%v, %v, %v): %v; %v", s, rules, states, got, plain)
			}
		}
		drawn += len(want)
	}
	if drawn < 3000 {
		t.Errorf("only %d strokes", drawn)
	}
}

// P14.5: many nodes.
func TestThrownMany(t *testing.T) {
	r := rand.New(rand.NewSource(142))
	for range 10 {
		s := thrown(r, 300)
		rules, states := thrownTheme(r, false), thrownStates(r, len(s.Nodes))
		followsOfList(t, s, rect(0, 0, 400, 300), rules, states)
		followsOfStates(t, r, s, rect(0, 0, 400, 300), rules, states)
	}
}
