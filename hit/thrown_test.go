package hit

import (
	"math"
	"math/rand"
	"slices"
	"testing"

	"casement/api"
	"casement/layout"
	"casement/list"
	"casement/paint"
	"casement/style"
	"casement/tree"
)

// agree asks At, All and Map for what the models answer, and for what follows: at each place of the rectangle, at those about it, and at far ones.
func agree(t *testing.T, s api.Spec, r api.Rect) {
	t.Helper()
	tops, e := Map(s, r)
	if want, wantE := modelMap(s, r); !slices.Equal(tops, want) || e != wantE {
		t.Fatalf("Map(%v, %v): %v, %d; %v, %d", s, r, tops, e, want, wantE)
	}
	places, e := layout.Places(s, r)
	if e != api.OK {
		pointAgrees(t, s, r, r.At, nil, e)
		return
	}
	for y := -1; y <= r.Size.H; y++ {
		for x := -1; x <= r.Size.W; x++ {
			p := at(r.At.X+x, r.At.Y+y)
			top := pointAgrees(t, s, r, p, places, api.OK)
			if within := x >= 0 && y >= 0 && x < r.Size.W && y < r.Size.H; within && tops[y*r.Size.W+x] != top || !within && top >= 0 {
				t.Fatalf("Map(%v, %v): %v, but at %v lies %d", s, r, tops, p, top)
			}
		}
	}
	for _, p := range []api.Point{at(math.MinInt, r.At.Y), at(math.MaxInt, r.At.Y), at(r.At.X, math.MinInt), at(r.At.X, math.MaxInt)} {
		pointAgrees(t, s, r, p, places, api.OK)
	}
}

// pointAgrees asks At and All at one point, and answers the topmost node there, or -1.
func pointAgrees(t *testing.T, s api.Spec, r api.Rect, p api.Point, places []api.Place, wantE api.Errno) int {
	t.Helper()
	var want []int
	if wantE == api.OK {
		want = modelAmong(s, places, p)
	}
	all, e := All(s, r, p)
	if !slices.Equal(all, want) || e != wantE {
		t.Fatalf("All(%v, %v, %v): %v, %d; %v, %d", s, r, p, all, e, want, wantE)
	}
	top, is, e := At(s, r, p)
	if is != (len(all) > 0) || is && top != all[0] || !is && top != 0 || e != wantE {
		t.Fatalf("At(%v, %v, %v): %d, %v, %d; %v, %d", s, r, p, top, is, e, all, wantE)
	}
	for i, node := range all {
		if place := places[node]; !place.Shown || !modelHas(place.Rect, p) || !modelHas(place.Clip, p) {
			t.Fatalf("All(%v, %v, %v): %v, but %d lies at %v", s, r, p, all, node, place)
		}
		path := modelPath(s, node)
		if parent := len(path) - 2; parent >= 0 && !slices.Contains(all[i+1:], path[parent]) { // and so on up to the root
			t.Fatalf("All(%v, %v, %v): %v, but not behind %d its parent", s, r, p, all, node)
		}
	}
	return append(all, -1)[0]
}

// crossedAgrees asks Crossed for what the model answers, and for what follows.
func crossedAgrees(t *testing.T, s api.Spec, from, to int) {
	t.Helper()
	left, entered, e := Crossed(s, from, to)
	wantLeft, wantEntered, wantE := modelCrossed(s, from, to)
	if !slices.Equal(left, wantLeft) || !slices.Equal(entered, wantEntered) || e != wantE {
		t.Fatalf("Crossed(%v, %d, %d): %v, %v, %d; %v, %v, %d", s, from, to, left, entered, e, wantLeft, wantEntered, wantE)
	}
	if e != api.OK {
		return
	}
	if from == to && len(left)+len(entered) > 0 {
		t.Fatalf("Crossed(%v, %d, itself): %v, %v", s, from, left, entered)
	}
	back, again, e := Crossed(s, to, from)
	slices.Reverse(back)
	slices.Reverse(again)
	if !slices.Equal(back, entered) || !slices.Equal(again, left) || e != api.OK {
		t.Fatalf("Crossed(%v, %d, %d): %v, %v; the other way round, turned round: %v, %v, %d", s, from, to, left, entered, back, again, e)
	}
	was, now := pathOf(s, from), pathOf(s, to)
	stay := slices.DeleteFunc(slices.Clone(was), func(node int) bool { return slices.Contains(left, node) })
	came := slices.DeleteFunc(slices.Clone(now), func(node int) bool { return slices.Contains(entered, node) })
	slices.Reverse(again) // as they were left: now from the root's side on
	if !slices.Equal(stay, came) || len(stay)+len(left) != len(was) || len(came)+len(entered) != len(now) {
		t.Fatalf("Crossed(%v, %d, %d): %v, %v; of the paths %v and %v stay %v and %v", s, from, to, left, entered, was, now, stay, came)
	}
}

// pathOf is tree's path; that of -1 has no nodes.
func pathOf(s api.Spec, node int) []int {
	if node < 0 {
		return nil
	}
	path, _ := tree.Path(s, node)
	return path
}

// dealt is a node by chance.
func dealt(r *rand.Rand) api.Node {
	texts := []string{"", "a", "window", "ab\ncde", "\n", "\u4e00"}
	n := api.Node{
		Kind: 1 + uint8(r.Intn(10)), Text: texts[r.Intn(len(texts))], Class: []string{"", "big"}[r.Intn(2)], Order: r.Intn(5) - 1,
		Grow: max(r.Intn(6)-2, 0), Column: r.Intn(2) > 0, Columns: r.Intn(4), Span: r.Intn(3), Gap: max(r.Intn(5)-2, 0),
		Off: api.Point{X: r.Intn(6), Y: r.Intn(6)}, Hidden: r.Intn(14) == 0,
	}
	if r.Intn(2) == 0 {
		n.Min = api.Size{W: r.Intn(9), H: r.Intn(9)}
	}
	if r.Intn(4) == 0 {
		n.Max = api.Size{W: n.Min.W + r.Intn(4), H: n.Min.H + r.Intn(4)}
	}
	for r.Intn(3) == 0 {
		n.Wraps = append(n.Wraps, dealtWrap(r))
	}
	return n
}

func dealtWrap(r *rand.Rand) api.Wrap {
	switch r.Intn(10) {
	case 0:
		return hide(uint16(r.Intn(64)))
	case 1:
		return only(uint16(r.Intn(64)) | api.Holds)
	case 2:
		return hide(api.Holds)
	case 3:
		return focusing(r.Intn(4))
	case 4:
		return dropping()
	case 5:
		return half()
	case 6:
		return called("b")
	}
	return pad(r.Intn(4))
}

// thrown is a spec by chance, of at most so many nodes, whose kids stand in any order.
func thrown(r *rand.Rand, count int) api.Spec {
	s := api.Spec{Nodes: []api.Node{dealt(r)}}
	if r.Intn(8) > 0 {
		s.Nodes[0].Kind, s.Nodes[0].Hidden, s.Nodes[0].Wraps = []uint8{api.Box, api.Grid, api.Stack, api.Stack, api.Scroll}[r.Intn(5)], false, nil
	}
	for len(s.Nodes) < count {
		n := &s.Nodes[r.Intn(len(s.Nodes))]
		if holder := n.Kind == api.Box || n.Kind == api.Grid || n.Kind == api.Stack; !holder && (n.Kind != api.Scroll || len(n.Kids) > 0) {
			count--
			continue
		}
		n.Kids = slices.Insert(n.Kids, r.Intn(len(n.Kids)+1), len(s.Nodes))
		kid := dealt(r)
		if r.Intn(3) == 0 {
			kid.Kind = []uint8{api.Box, api.Stack, api.Scroll}[r.Intn(3)]
		}
		s.Nodes = append(s.Nodes, kid)
	}
	return s
}

// rooms are rectangles by chance: great ones, small ones, one in which some nodes would lie beyond the last place.
func rooms(r *rand.Rand) []api.Rect {
	return []api.Rect{
		rect(r.Intn(41)-20, r.Intn(41)-20, r.Intn(20), r.Intn(14)),
		rect(r.Intn(41)-20, r.Intn(41)-20, r.Intn(5), r.Intn(5)),
		rect(side-r.Intn(30), side-r.Intn(30), 0, 0),
	}
}

// P20.1, P20.2, P20.5
func TestThrown(t *testing.T) {
	r := rand.New(rand.NewSource(200))
	seen := map[string]int{}
	for range 500 {
		s := thrown(r, 1+r.Intn(14))
		if e := tree.Check(s); e != api.OK {
			t.Fatalf("%v may not be", s)
		}
		for _, room := range rooms(r) {
			agree(t, s, room)
			count(s, room, seen)
		}
	}
	for _, what := range []string{"beyond", "no place", "nobody", "one", "two", "three", "more", "not the deepest", "not the greatest number", "covers another branch", "in the place, not in the clip", "in the clip, not in the place"} {
		if seen[what] < 100 {
			t.Errorf("%s: only %d", what, seen[what])
		}
	}
}

// count counts what was thrown, so that nothing is left out by chance.
func count(s api.Spec, room api.Rect, seen map[string]int) {
	places, e := layout.Places(s, room)
	switch {
	case e != api.OK:
		seen["beyond"]++
		return
	case room.Size.W*room.Size.H == 0:
		seen["no place"]++
	}
	for i := range room.Size.W * room.Size.H {
		p := at(room.At.X+i%room.Size.W, room.At.Y+i/room.Size.W)
		all := modelAmong(s, places, p)
		seen[[]string{"nobody", "one", "two", "three", "more"}[min(len(all), 4)]]++
		for node, place := range places {
			if place.Shown && modelHas(place.Rect, p) && !modelHas(place.Clip, p) {
				seen["in the place, not in the clip"]++
			}
			if place.Shown && !modelHas(place.Rect, p) && modelHas(place.Clip, p) {
				seen["in the clip, not in the place"]++
			}
			if slices.Contains(all, node) && len(modelPath(s, node)) > len(modelPath(s, all[0])) {
				seen["not the deepest"]++
			}
		}
		if len(all) > 0 && slices.Max(all) != all[0] {
			seen["not the greatest number"]++
		}
		if len(all) > 0 && len(modelPath(s, all[0])) < len(all) {
			seen["covers another branch"]++
		}
	}
}

// thrownTheme is rules by chance.
func thrownTheme(r *rand.Rand) []api.Rule {
	var l []api.Rule
	colours := []api.Colour{{R: 255, A: 255}, {G: 255, A: 255}, {B: 9, A: 100}, {}}
	for range r.Intn(8) {
		rule := api.Rule{Kind: uint8(max(r.Intn(20)-9, 0)), Class: []string{"", "", "big"}[r.Intn(3)], State: uint8(r.Intn(16) & r.Intn(16))}
		look := api.Look{Has: uint8(r.Intn(16) | r.Intn(16)), Colour: colours[r.Intn(4)], Back: colours[r.Intn(4)], Border: r.Intn(2) > 0, Pad: r.Intn(3)}
		rule.Look = style.Under(look, api.Look{}) // what is not told is zero then
		l = append(l, rule)
	}
	return l
}

// P20.6: of each stroke of the drawing list, of any theme and states, the node lies at each place at which it shows.
func TestThrownStrokes(t *testing.T) {
	r := rand.New(rand.NewSource(201))
	seen := map[uint8]int{}
	for range 500 {
		s := thrown(r, 1+r.Intn(14))
		states := make([]uint8, r.Intn(len(s.Nodes)+1))
		for i := range states {
			states[i] = uint8(r.Intn(256))
		}
		room, theme := rooms(r)[r.Intn(2)], thrownTheme(r)
		drawn, e := paint.Draw(s, room, theme, states)
		if e != api.OK {
			t.Fatalf("Draw(%v, %v, %v, %v): %d", s, room, theme, states, e)
		}
		strokes, shown, e := list.Flat(drawn)
		if e != api.OK {
			t.Fatalf("Flat(%v): %d", drawn, e)
		}
		for i, stroke := range strokes {
			for j := range shown[i].Size.W * shown[i].Size.H {
				p := at(shown[i].At.X+j%shown[i].Size.W, shown[i].At.Y+j/shown[i].Size.W)
				if all, e := All(s, room, p); !slices.Contains(all, stroke.Node) || e != api.OK {
					t.Fatalf("Draw(%v, %v, %v, %v): %v shows at %v, but All is %v, %d", s, room, theme, states, stroke, p, all, e)
				}
				seen[stroke.Kind]++
			}
		}
	}
	for _, kind := range []uint8{api.Fill, api.Frame, api.Write} {
		if seen[kind] < 1000 {
			t.Errorf("strokes of the kind %d: only %d", kind, seen[kind])
		}
	}
}

// P20.3, P20.7
func TestThrownCrossed(t *testing.T) {
	r := rand.New(rand.NewSource(202))
	seen := map[string]int{}
	for range 300 {
		s := thrown(r, 1+r.Intn(20))
		for from := -2; from <= len(s.Nodes)+1; from++ {
			for to := -2; to <= len(s.Nodes)+1; to++ {
				crossedAgrees(t, s, from, to)
				countCrossed(s, from, to, seen)
			}
		}
	}
	for _, what := range []string{"wrong", "itself", "up", "down", "across", "in", "out"} {
		if seen[what] < 100 {
			t.Errorf("%s: only %d", what, seen[what])
		}
	}
}

func countCrossed(s api.Spec, from, to int, seen map[string]int) {
	left, entered, e := modelCrossed(s, from, to)
	switch {
	case e != api.OK:
		seen["wrong"]++
	case from == to:
		seen["itself"]++
	case from < 0:
		seen["in"]++
	case to < 0:
		seen["out"]++
	case len(entered) == 0:
		seen["up"]++
	case len(left) == 0:
		seen["down"]++
	default:
		seen["across"]++
	}
}

// P20.1, P20.5: All, turned round, is the order of drawing less those that do not lie there.
func TestThrownOrder(t *testing.T) {
	r := rand.New(rand.NewSource(206))
	several := 0
	for range 500 {
		s := thrown(r, 1+r.Intn(14))
		room := rect(r.Intn(41)-20, r.Intn(41)-20, 1+r.Intn(12), 1+r.Intn(12))
		order, e := paint.Order(s, room)
		if e != api.OK {
			t.Fatalf("Order(%v, %v): %d", s, room, e)
		}
		for i := range room.Size.W * room.Size.H {
			p := at(room.At.X+i%room.Size.W, room.At.Y+i/room.Size.W)
			all, e := All(s, room, p)
			drawn := slices.DeleteFunc(slices.Clone(order), func(node int) bool { return !slices.Contains(all, node) })
			slices.Reverse(drawn)
			if !slices.Equal(all, drawn) || e != api.OK {
				t.Fatalf("All(%v, %v, %v): %v, %d; drawn are %v", s, room, p, all, e, order)
			}
			several += len(all) / 3
		}
	}
	if several < 100 {
		t.Errorf("only %d", several)
	}
}
