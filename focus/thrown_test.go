package focus

import (
	"math/rand"
	"slices"
	"testing"

	"casement/api"
	"casement/layout"
	"casement/tree"
)

// agree asks all calls for what the models answer, and for what follows.
func agree(t *testing.T, s api.Spec, r api.Rect) {
	t.Helper()
	_, placed := layout.Places(s, r)
	var want []int
	if placed == api.OK {
		want = modelOrder(s)
	}
	if got, e := Order(s, r); !slices.Equal(got, want) || e != placed {
		t.Fatalf("Order(%v, %v): %v, %d; %v, %d", s, r, got, e, want, placed)
	}
	for node := -2; node <= len(s.Nodes)+1; node++ {
		stepsAgree(t, s, r, node)
		for way := range uint8(5) {
			to, is, e := Toward(s, r, node, way)
			if want, wantIs, wantE := modelToward(s, r, node, way); to != want || is != wantIs || e != wantE || is && to == node {
				t.Fatalf("Toward(%v, %v, %d, %d): %d, %v, %d; %d, %v, %d", s, r, node, way, to, is, e, want, wantIs, wantE)
			}
		}
		keepAgrees(t, s, s, r, node)
	}
	if placed == api.OK {
		goesRound(t, s, r)
		keepsItself(t, s, r)
	}
}

func stepsAgree(t *testing.T, s api.Spec, r api.Rect, node int) {
	t.Helper()
	next, nexts, e := Next(s, r, node)
	if want, wants, wantE := modelStep(s, r, node, 1); next != want || nexts != wants || e != wantE {
		t.Fatalf("Next(%v, %v, %d): %d, %v, %d; %d, %v, %d", s, r, node, next, nexts, e, want, wants, wantE)
	}
	back, backs, e := Back(s, r, node)
	if want, wants, wantE := modelStep(s, r, node, -1); back != want || backs != wants || e != wantE {
		t.Fatalf("Back(%v, %v, %d): %d, %v, %d; %d, %v, %d", s, r, node, back, backs, e, want, wants, wantE)
	}
}

func keepAgrees(t *testing.T, old, now api.Spec, r api.Rect, node int) {
	t.Helper()
	to, is, e := Keep(old, now, r, node)
	if want, wantIs, wantE := modelKeep(old, now, r, node); to != want || is != wantIs || e != wantE {
		t.Fatalf("Keep(%v, %v, %v, %d): %d, %v, %d; %d, %v, %d", old, now, r, node, to, is, e, want, wantIs, wantE)
	}
}

// goesRound: P18.6. Whoever can be focused comes just once; Next and Back lead through all of them and begin again, and are one another's way back.
func goesRound(t *testing.T, s api.Spec, r api.Rect) {
	t.Helper()
	order, e := Order(s, r)
	if e != api.OK {
		t.Fatalf("Order(%v, %v): %d", s, r, e)
	}
	for node := range s.Nodes {
		times := 0
		for _, one := range order {
			if one == node {
				times++
			}
		}
		if can := modelFocus(s, node); can != (times == 1) || times > 1 {
			t.Fatalf("Order(%v, %v): %v: %d comes %d times", s, r, order, node, times)
		}
	}
	on, to := -1, -1
	for i := range 2*len(order) + 1 {
		if len(order) == 0 {
			break
		}
		on, _, _ = Next(s, r, on)
		if want := order[i%len(order)]; on != want {
			t.Fatalf("Next(%v, %v, ..) leads to %d, not to %d of %v", s, r, on, want, order)
		}
		to, _, _ = Back(s, r, to)
		if want := order[len(order)-1-i%len(order)]; to != want {
			t.Fatalf("Back(%v, %v, ..) leads to %d, not to %d of %v", s, r, to, want, order)
		}
	}
	for _, node := range order {
		next, _, _ := Next(s, r, node)
		back, _, _ := Back(s, r, node)
		again, is, e := Back(s, r, next)
		once, was, f := Next(s, r, back)
		if again != node || once != node || !is || !was || e != api.OK || f != api.OK {
			t.Fatalf("of %v, %v: from %d to %d and back to %d; back to %d and on to %d", s, r, node, next, again, back, once)
		}
	}
}

// keepsItself: P18.7.
func keepsItself(t *testing.T, s api.Spec, r api.Rect) {
	t.Helper()
	order, _ := Order(s, r)
	for _, node := range order {
		name := s.Nodes[node].Name
		if name == "" {
			continue
		}
		first := slices.IndexFunc(order, func(one int) bool { return s.Nodes[one].Name == name })
		to, is, e := Keep(s, s, r, node)
		if to != order[first] || !is || e != api.OK {
			t.Fatalf("Keep(%v, itself, %v, %d): %d, %v, %d; of %v", s, r, node, to, is, e, order)
		}
		names := slices.DeleteFunc(slices.Clone(order), func(one int) bool { return s.Nodes[one].Name != name })
		if len(names) == 1 && to != node {
			t.Fatalf("Keep(%v, itself, %v, %d): %d, but no other one has its name", s, r, node, to)
		}
	}
}

// dealt is a node by chance.
func dealt(r *rand.Rand) api.Node {
	orders := []int{0, 0, 0, 0, 0, 1, 1, 1, 2, 2, 3, 7, greatest, -1}
	names := []string{"", "", "a", "b", "c", "d", "e", "ab"}
	n := api.Node{
		Kind: 1 + uint8(r.Intn(10)), Name: names[r.Intn(len(names))], Text: []string{"", "a", "window", "ab\ncde"}[r.Intn(4)],
		Grow: max(r.Intn(6)-3, 0), Column: r.Intn(2) > 0, Columns: r.Intn(4), Span: r.Intn(3), Gap: max(r.Intn(5)-2, 0),
		Off: api.Point{X: r.Intn(6), Y: r.Intn(6)}, Hidden: r.Intn(14) == 0, Order: orders[r.Intn(len(orders))],
	}
	if r.Intn(2) == 0 {
		n.Kind = []uint8{api.Button, api.Field}[r.Intn(2)]
	}
	if r.Intn(3) == 0 {
		n.Min = api.Size{W: r.Intn(9), H: r.Intn(9)}
	}
	for r.Intn(3) == 0 {
		n.Wraps = append(n.Wraps, dealtWrap(r))
	}
	return n
}

func dealtWrap(r *rand.Rand) api.Wrap {
	switch r.Intn(9) {
	case 0:
		return hide(uint16(r.Intn(64)))
	case 1:
		return only(uint16(r.Intn(64)) | api.Holds)
	case 2:
		return hide([]uint16{api.Focuses, api.Holds}[r.Intn(2)])
	case 3, 4:
		return focusing(r.Intn(6) - 1)
	case 5:
		return half()
	case 6:
		return dropping()
	case 7:
		return called("b")
	}
	return pad(r.Intn(3))
}

// thrown is a spec by chance, of at most so many nodes, whose kids stand in any order.
func thrown(r *rand.Rand, count int) api.Spec {
	s := api.Spec{Nodes: []api.Node{dealt(r)}}
	if r.Intn(8) > 0 {
		s.Nodes[0].Kind, s.Nodes[0].Hidden, s.Nodes[0].Wraps = []uint8{api.Box, api.Grid, api.Stack, api.Scroll}[r.Intn(4)], false, nil
	}
	for len(s.Nodes) < count {
		n := &s.Nodes[r.Intn(len(s.Nodes))]
		if holder := n.Kind == api.Box || n.Kind == api.Grid || n.Kind == api.Stack; !holder && (n.Kind != api.Scroll || len(n.Kids) > 0) {
			count--
			continue
		}
		n.Kids = slices.Insert(n.Kids, r.Intn(len(n.Kids)+1), len(s.Nodes))
		kid := dealt(r)
		if r.Intn(5) == 0 {
			kid.Kind, kid.Hidden, kid.Wraps = api.Box, false, nil
		}
		s.Nodes = append(s.Nodes, kid)
	}
	return s
}

// next is a spec that comes of another one by a few changes.
func next(r *rand.Rand, s api.Spec) api.Spec {
	for range r.Intn(5) {
		var t api.Spec
		e := api.OK
		node, to := r.Intn(len(s.Nodes)), r.Intn(len(s.Nodes))
		switch r.Intn(4) {
		case 0:
			t, e = tree.Take(s, node)
		case 1:
			t, e = tree.Move(s, node, to, 0)
		case 2:
			t, e = tree.Put(s, node, 0, thrown(r, 1+r.Intn(3)))
		case 3:
			t = changed(s, node, func(n *api.Node) {
				kids, kind := n.Kids, n.Kind
				*n = dealt(r)
				if n.Kids = kids; len(kids) > 0 {
					n.Kind = kind
				}
			})
		}
		if e == api.OK && tree.Check(t) == api.OK {
			s = t
		}
	}
	return s
}

// renamed is a spec in which few names are left.
func renamed(r *rand.Rand, s api.Spec) api.Spec {
	s.Nodes = slices.Clone(s.Nodes)
	for i := range s.Nodes {
		if r.Intn(5) > 0 {
			s.Nodes[i].Name = []string{"", "x", "y"}[r.Intn(3)]
		}
	}
	return s
}

// thrownRow is a Box of Buttons by chance.
func thrownRow(r *rand.Rand, count int) api.Spec {
	var l []string
	for range count {
		l = append(l, []string{"", "a", "b", "c", "d", "e", "f", "g", "h"}[r.Intn(9)])
	}
	s := row(l...)
	for i := range s.Nodes {
		s.Nodes[i].Order = max(r.Intn(6)-2, -1)
	}
	return s
}

// rooms are rectangles by chance: great ones, small ones, one in which some nodes would lie beyond the last place.
func rooms(r *rand.Rand) []api.Rect {
	return []api.Rect{
		rect(r.Intn(41)-20, r.Intn(41)-20, r.Intn(60), r.Intn(40)),
		rect(r.Intn(41)-20, r.Intn(41)-20, r.Intn(8), r.Intn(8)),
		rect(side-r.Intn(30), side-r.Intn(30), 0, 0),
	}
}

// P18.1 to P18.3, P18.6, P18.7
func TestThrown(t *testing.T) {
	r := rand.New(rand.NewSource(180))
	seen := map[string]int{}
	for range 1200 {
		s := thrown(r, 1+r.Intn(14))
		if e := tree.Check(s); e != api.OK {
			t.Fatalf("%v may not be", s)
		}
		for _, room := range rooms(r) {
			agree(t, s, room)
			count(s, room, seen)
		}
	}
	for _, what := range []string{"beyond", "nobody", "one", "not as the walk", "not there", "not shown", "toward", "toward, of several", "toward nobody", "from one not shown"} {
		if seen[what] < 100 {
			t.Errorf("%s: only %d", what, seen[what])
		}
	}
}

// count counts what was thrown, so that nothing is left out by chance.
func count(s api.Spec, room api.Rect, seen map[string]int) {
	places, e := layout.Places(s, room)
	if e != api.OK {
		seen["beyond"]++
		return
	}
	order := modelOrder(s)
	switch len(order) {
	case 0:
		seen["nobody"]++
	case 1:
		seen["one"]++
	}
	if walked := slices.DeleteFunc(modelWalk(s, 0), func(node int) bool { return !modelFocus(s, node) }); !slices.Equal(walked, order) {
		seen["not as the walk"]++
	}
	for node := range s.Nodes {
		if p := modelPartOf(s.Nodes[node]); p.focus && p.order >= 0 && !modelThere(s, node) {
			seen["not there"]++
		}
	}
	for _, node := range order {
		if !places[node].Shown {
			seen["not shown"]++
		}
		for way := range uint8(4) {
			found := 0
			for _, other := range order {
				if places[other].Shown && modelLies(places[node].Rect, places[other].Rect, way) {
					found++
				}
			}
			seen[[]string{"toward nobody", "toward", "toward, of several"}[min(found, 2)]]++
			if found > 0 && !places[node].Shown {
				seen["from one not shown"]++
			}
		}
	}
}

// P18.4: of specs, what comes of them, and others.
func TestThrownKeep(t *testing.T) {
	r := rand.New(rand.NewSource(181))
	seen := map[string]int{}
	for i := range 2500 {
		old := thrown(r, 1+r.Intn(14))
		if i%2 > 0 {
			old = thrownRow(r, 1+r.Intn(9))
		}
		for i, now := range []api.Spec{next(r, old), renamed(r, old), thrown(r, 1+r.Intn(9))} {
			for _, room := range rooms(r)[i : i+1] {
				for node := -2; node <= len(old.Nodes)+1; node++ {
					keepAgrees(t, old, now, room, node)
					countKept(old, now, room, node, seen)
				}
			}
		}
	}
	for _, what := range []string{"beyond", "no node", "no focus", "nobody now", "its name", "one ahead", "two ahead", "more ahead", "the first one"} {
		if seen[what] < 100 {
			t.Errorf("%s: only %d", what, seen[what])
		}
	}
}

func countKept(old, now api.Spec, room api.Rect, node int, seen map[string]int) {
	_, is, e := modelKeep(old, now, room, node)
	l, was := modelOrder(now), modelOrder(old)
	at := slices.Index(was, node)
	switch {
	case e == api.ErrNode:
		seen["no node"]++
	case e != api.OK:
		seen["beyond"]++
	case is:
		for i := range at + 1 {
			if _, ok := modelNamed(now, l, old.Nodes[was[at-i]].Name); ok {
				seen[[]string{"its name", "one ahead", "two ahead", "more ahead"}[min(i, 3)]]++
				return
			}
		}
		seen["the first one"]++
	case at < 0:
		seen["no focus"]++
	default:
		seen["nobody now"]++
	}
}

// P18.1, P18.6: many nodes, so many of them alike that their sorting must be stable.
func TestThrownMany(t *testing.T) {
	r := rand.New(rand.NewSource(182))
	for range 30 {
		s := thrown(r, 150+r.Intn(150))
		room := rect(0, 0, 400, 300)
		want := modelOrder(s)
		if got, e := Order(s, room); !slices.Equal(got, want) || e != api.OK {
			t.Fatalf("Order(%v, ..): %v, %d; %v", s, got, e, want)
		}
		for range 40 {
			node := r.Intn(len(s.Nodes)+1) - 1
			stepsAgree(t, s, room, node)
			keepAgrees(t, s, next(r, s), room, node)
			way := uint8(r.Intn(4))
			to, is, e := Toward(s, room, node, way)
			if want, wantIs, wantE := modelToward(s, room, node, way); to != want || is != wantIs || e != wantE {
				t.Fatalf("Toward(%v, .., %d, %d): %d, %v, %d; %d, %v, %d", s, node, way, to, is, e, want, wantIs, wantE)
			}
		}
	}
}

// P18.3: boards of things that lie anywhere, near one another, so that many are alike.
func TestThrownBoards(t *testing.T) {
	r := rand.New(rand.NewSource(183))
	alike := 0
	for range 600 {
		var l [][5]int
		for range 2 + r.Intn(7) {
			l = append(l, [5]int{r.Intn(9), r.Intn(9), r.Intn(4), r.Intn(4), r.Intn(4)})
		}
		s, room := board(l...), rect(r.Intn(9)-12, r.Intn(9)-12, 6+r.Intn(9), 6+r.Intn(9))
		places, _ := layout.Places(s, room)
		for i := range l {
			for way := range uint8(4) {
				to, is, e := Toward(s, room, at(i), way)
				if want, wantIs, wantE := modelToward(s, room, at(i), way); to != want || is != wantIs || e != wantE {
					t.Fatalf("Toward(%v, %v, %d, %d): %d, %v, %d; %d, %v, %d", l, room, i, way, to, is, e, want, wantIs, wantE)
				}
				for j := range l {
					a, b, other := places[at(i)].Rect, places[to].Rect, places[at(j)]
					if is && at(j) != to && other.Shown && modelLies(a, other.Rect, way) && modelSum(a, other.Rect, way) == modelSum(a, b, way) {
						alike++
					}
				}
			}
		}
	}
	if alike < 100 {
		t.Errorf("only %d that are as near", alike)
	}
}
