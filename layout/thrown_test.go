package layout

import (
	"math/rand"
	"slices"
	"strings"
	"testing"

	"casement/api"
	"casement/least"
	"casement/tree"
)

// agree asks all calls for what the models answer, and for what follows.
func agree(t *testing.T, s api.Spec, r api.Rect) {
	t.Helper()
	needs, e := Need(s)
	if want, wantE := modelNeed(s); !slices.Equal(needs, want) || e != wantE {
		t.Fatalf("Need(%v): %v, %d; %v, %d", s, needs, e, want, wantE)
	}
	l, placed := Places(s, r)
	if want, wantE := modelPlaces(s, r); !slices.Equal(l, want) || placed != wantE {
		t.Fatalf("Places(%v, %v): %v, %d; %v, %d", s, r, l, placed, want, wantE)
	}
	for node := range s.Nodes {
		var want api.Place
		if placed == api.OK {
			want = l[node]
		}
		if got, e := Of(s, r, node); got != want || e != placed {
			t.Fatalf("Of(%v, %v, %d): %v, %d; %v, %d", s, r, node, got, e, want, placed)
		}
		boundsAgree(t, s, node, needs)
	}
	if e == api.OK {
		needsFollow(t, s, needs)
	}
	if placed == api.OK {
		placesFollow(t, s, r, needs, l)
	}
}

// boundsAgree asks Bounds for what the model answers, and what is least of them for what the kids need together (P12.7).
func boundsAgree(t *testing.T, s api.Spec, node int, needs []api.Size) {
	t.Helper()
	n, m := s.Nodes[node], modelOf(s, api.Rect{})
	for _, along := range []bool{true, false} {
		l, count, e := Bounds(s, node, along)
		want, wantCount, wantE := modelBounds(s, node, along)
		if !slices.Equal(l, want) || count != wantCount || e != wantE {
			t.Fatalf("Bounds(%v, %d, %v): %v, %d, %d; %v, %d, %d", s, node, along, l, count, e, want, wantCount, wantE)
		}
		if count == 0 {
			continue
		}
		at, e := least.Solve(count, l)
		if e != api.OK {
			t.Fatalf("Bounds(%v, %d, %v): %v: %d", s, node, along, l, e)
		}
		all, need := m.together(node), needs[node]
		if along == n.Column {
			all, need = api.Size{W: all.H}, api.Size{W: need.H}
		}
		if last := at[count-1]; last != all.W || last+2*modelPad(n) > need.W {
			t.Fatalf("Bounds(%v, %d, %v): the least numbers are %v; together %d, of %d", s, node, along, at, all.W, need.W)
		}
	}
}

// needsFollow: a node needs at least Min, and at least what each kid needs, but in a Scroll (P12.7).
func needsFollow(t *testing.T, s api.Spec, needs []api.Size) {
	t.Helper()
	m := modelOf(s, api.Rect{})
	for node, n := range s.Nodes {
		if !m.there(node) {
			continue
		}
		asks := []api.Size{n.Min}
		for _, kid := range m.kids(node) {
			if n.Kind != api.Scroll {
				asks = append(asks, needs[kid])
			}
		}
		for _, one := range asks {
			if needs[node].W < one.W || needs[node].H < one.H {
				t.Fatalf("Need(%v): %v: %d needs less than %v", s, needs, node, one)
			}
		}
	}
}

// placesFollow: what is shown is there, and so are all above; in as much room as the root needs places fit all nodes (P12.6), and in any room Fits tells what the model tells.
func placesFollow(t *testing.T, s api.Spec, r api.Rect, needs []api.Size, l []api.Place) {
	t.Helper()
	m := modelOf(s, r)
	for node, p := range l {
		if path, _ := tree.Path(s, node); p.Shown && slices.ContainsFunc(path, func(up int) bool { return !m.there(up) }) {
			t.Fatalf("Places(%v, %v): %v: %d is shown, but not there", s, r, l, node)
		}
	}
	got, e := Fits(s, l)
	if want, wantE := modelFits(s, l); got != want || e != wantE {
		t.Fatalf("Fits(%v, %v): %d, %d; %d, %d", s, l, got, e, want, wantE)
	}
	if m.there(0) && r.Size.W >= needs[0].W && r.Size.H >= needs[0].H && got != -1 {
		t.Fatalf("Places(%v, %v): %v do not fit %d", s, r, l, got)
	}
}

// dealt is a node by chance, with numbers up to great.
func dealt(r *rand.Rand, great int) api.Node {
	texts := []string{"", "a", "window", "ab\ncde", "\n", "one\ntwo\nthree"}
	n := api.Node{
		Kind: 1 + uint8(r.Intn(10)), Text: texts[r.Intn(len(texts))],
		Grow: max(r.Intn(6)-2, 0), Column: r.Intn(2) > 0, Columns: r.Intn(5), Span: r.Intn(5), Gap: max(r.Intn(great+1)-great/2, 0),
		Off: api.Point{X: r.Intn(2 * great), Y: r.Intn(2 * great)}, Hidden: r.Intn(12) == 0,
	}
	if r.Intn(3) > 0 { // holders, so that trees grow
		n.Kind = []uint8{api.Box, api.Grid, api.Stack, api.Scroll, api.Box}[r.Intn(5)]
	}
	if r.Intn(3) == 0 {
		n.Min = api.Size{W: r.Intn(great), H: r.Intn(great)}
	}
	if r.Intn(3) == 0 {
		n.Max = api.Size{W: min(n.Min.W+r.Intn(great), side) * r.Intn(2), H: min(n.Min.H+r.Intn(great), side) * r.Intn(2)}
	}
	for r.Intn(3) == 0 {
		n.Wraps = append(n.Wraps, dealtWrap(r, great))
	}
	return n
}

func dealtWrap(r *rand.Rand, great int) api.Wrap {
	switch r.Intn(12) {
	case 0:
		return api.Wrap{Kind: api.WrapHide, Mask: uint16(r.Intn(64))}
	case 1:
		return api.Wrap{Kind: api.WrapOnly, Mask: uint16(r.Intn(64)) | api.Holds}
	case 2:
		return api.Wrap{Kind: api.WrapName, Text: "b"}
	case 3:
		return api.Wrap{Kind: api.WrapFocus, Number: 3}
	case 4:
		return api.Wrap{Kind: api.WrapDrop, Text: "file"}
	case 5:
		return api.Wrap{Kind: api.WrapHalf}
	case 6:
		return api.Wrap{Kind: api.WrapHide, Mask: api.Measures}
	}
	return api.Wrap{Kind: api.WrapPad, Number: r.Intn(great/4 + 2)}
}

// thrown is a spec of at most so many nodes, whose kids stand in any order.
func thrown(r *rand.Rand, count, great int) api.Spec {
	s := api.Spec{Nodes: []api.Node{dealt(r, great)}}
	if s.Nodes[0].Kind < api.Box || r.Intn(10) > 0 {
		s.Nodes[0].Kind = []uint8{api.Box, api.Grid, api.Stack, api.Scroll}[r.Intn(4)]
		s.Nodes[0].Hidden = r.Intn(60) == 0
	}
	for len(s.Nodes) < count {
		up := r.Intn(len(s.Nodes))
		if r.Intn(2) == 0 {
			up = 0
		}
		n := &s.Nodes[up]
		if holder := strings.ContainsRune("\x04\x05\x0a", rune(n.Kind)); !holder && (n.Kind != api.Scroll || len(n.Kids) > 0) {
			count--
			continue
		}
		n.Kids = slices.Insert(n.Kids, r.Intn(len(n.Kids)+1), len(s.Nodes))
		s.Nodes = append(s.Nodes, dealt(r, great))
	}
	return s
}

// P12.1, P12.2, P12.3, P12.4, P12.6, P12.7: in rectangles about what the root needs.
func TestThrown(t *testing.T) {
	r := rand.New(rand.NewSource(120))
	seen := map[string]int{}
	for range 2000 {
		s := thrown(r, 1+r.Intn(12), 1+r.Intn(12))
		if e := tree.Check(s); e != api.OK {
			t.Fatalf("%v may not be", s)
		}
		needs, e := modelNeed(s)
		if e != api.OK {
			t.Fatalf("%v needs too much", s)
		}
		x, y := r.Intn(41)-20, r.Intn(41)-20
		need := needs[0]
		agree(t, s, rect(x, y, need.W, need.H))
		agree(t, s, rect(x, y, need.W+r.Intn(30), need.H+r.Intn(30)))
		agree(t, s, rect(x, y, max(need.W+r.Intn(9)-4, 0), max(need.H+r.Intn(9)-4, 0)))
		agree(t, s, rect(x, y, r.Intn(60), r.Intn(60)))
		// so near to the last place, or to the first one, that it comes out just so, or not
		w, h := r.Intn(need.W+2), r.Intn(need.H+2)
		agree(t, s, rect(side-w, side-h, w, h))
		agree(t, s, rect(side-need.W-r.Intn(2), side-need.H-r.Intn(2), need.W, r.Intn(need.H+1)))
		agree(t, s, rect(-side, -side+r.Intn(3), w, h))
		count(s, rect(x, y, w, h), seen)
		count(s, rect(side-w, side-h, w, h), seen)
	}
	for _, what := range []string{"shown", "not shown", "not there", "there", "kids of a Box", "kids of a Grid", "kids of a Stack", "kids of a Scroll", "beyond"} {
		if seen[what] < 100 {
			t.Errorf("%s: only %d", what, seen[what])
		}
	}
}

// count counts what was thrown, so that nothing is left out by chance.
func count(s api.Spec, r api.Rect, seen map[string]int) {
	l, e := Places(s, r)
	if e != api.OK {
		seen["beyond"]++
	}
	m := modelOf(s, r)
	names := []string{"", "", "", "", "Box", "Grid", "Scroll", "", "", "", "Stack"}
	for node, p := range l {
		switch {
		case !m.there(node):
			seen["not there"]++
		case p.Shown:
			seen["shown"]++
		default:
			seen["not shown"]++
		}
		if m.there(node) {
			seen["there"]++
		}
		seen["kids of a "+names[s.Nodes[node].Kind]] += len(m.kids(node))
	}
}

// P12.1, P12.2, P12.3, P12.6, P12.7: with numbers up to the ends, so that sums are often too great.
func TestThrownGreat(t *testing.T) {
	r := rand.New(rand.NewSource(121))
	for range 300 {
		for _, great := range []int{60, 900, 5000, side} {
			s := thrown(r, 1+r.Intn(8), great)
			x, y := r.Intn(2*side+1)-side, r.Intn(2*side+1)-side
			agree(t, s, rect(x, y, r.Intn(side-x+1), r.Intn(side-y+1)))
			agree(t, s, rect(-side, -side, 2*side, 2*side))
			agree(t, s, rect(0, 0, side, side))
		}
	}
}

// P12.1, P12.2: many nodes.
func TestThrownMany(t *testing.T) {
	r := rand.New(rand.NewSource(122))
	for range 20 {
		s := thrown(r, 100+r.Intn(100), 4)
		needs, _ := modelNeed(s)
		agree(t, s, api.Rect{Size: needs[0]})
		agree(t, s, rect(-3, 2, 500, 300))
	}
}

// P12.4: places that were changed, by one and by more, in any number of any of them.
func TestThrownFits(t *testing.T) {
	r := rand.New(rand.NewSource(123))
	unfit := 0
	for range 3000 {
		s := thrown(r, 2+r.Intn(9), 1+r.Intn(10))
		needs, _ := modelNeed(s)
		l, e := Places(s, rect(r.Intn(9)-4, r.Intn(9)-4, needs[0].W+r.Intn(6), needs[0].H+r.Intn(6)))
		if e != api.OK {
			t.Fatalf("Places(%v): %d", s, e)
		}
		for range 12 {
			changed := slices.Clone(l)
			for range 1 + r.Intn(2) {
				nudge(r, &changed[r.Intn(len(l))])
			}
			got, e := Fits(s, changed)
			if want, wantE := modelFits(s, changed); got != want || e != wantE {
				t.Fatalf("Fits(%v, %v): %d, %d; %d, %d", s, changed, got, e, want, wantE)
			}
			if got >= 0 {
				unfit++
			}
		}
	}
	if unfit < 5000 {
		t.Errorf("only %d did not fit", unfit)
	}
}

// nudge changes one number of a place, or what counts for nothing of one that is there.
func nudge(r *rand.Rand, p *api.Place) {
	by := []int{-1, 1, -1, 1, -3, 5, 4 * side, -4 * side}[r.Intn(8)]
	switch r.Intn(7) {
	case 0:
		p.Rect.At.X += by
	case 1:
		p.Rect.At.Y += by
	case 2:
		p.Rect.Size.W += by
	case 3:
		p.Rect.Size.H += by
	case 4:
		p.Clip.At.X += by
	case 5:
		p.Shown = !p.Shown
	case 6: // moved, and as much less or more
		p.Rect.At.X += by
		p.Rect.Size.W -= by
	}
}
