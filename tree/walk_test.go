package tree

import (
	"math"
	"slices"
	"strconv"
	"strings"
	"testing"

	"casement/api"
	"casement/part"
	"casement/wrap"
)

// stop is a node of a walk with its depth.
type stop struct{ node, depth int }

// stops are those of a walk, as far as it goes; left behind so many, if that is not below 0.
func stops(walk func(func(int, int) bool), leave int) []stop {
	var l []stop
	for node, depth := range walk {
		if len(l) == leave {
			break
		}
		l = append(l, stop{node, depth})
	}
	return l
}

// ups are the same, of Up.
func ups(up func(func(int) bool), leave int) []int {
	var l []int
	for node := range up {
		if len(l) == leave {
			break
		}
		l = append(l, node)
	}
	return l
}

// modelWalk is the walk of a twig, modelUp the way up.
func modelWalk(w *twig, depth int) []stop {
	l := []stop{{w.from, depth}}
	for _, kid := range w.kids {
		l = append(l, modelWalk(kid, depth+1)...)
	}
	return l
}

func modelUp(w *twig) []int {
	var l []int
	for _, kid := range w.kids {
		l = append(l, modelUp(kid)...)
	}
	return append(l, w.from)
}

func TestWalkExamples(t *testing.T) {
	if got := stops(Walk(sampleT()), -1); !slices.Equal(got, []stop{{0, 1}, {2, 2}, {3, 3}, {1, 2}}) {
		t.Errorf("Walk(T): %v", got)
	}
	if got := ups(Up(sampleT()), -1); !slices.Equal(got, []int{3, 2, 1, 0}) {
		t.Errorf("Up(T): %v", got)
	}
	if got := stops(Walk(alone(api.Gap, "")), -1); !slices.Equal(got, []stop{{0, 1}}) {
		t.Errorf("Walk of one node: %v", got)
	}
	if got := ups(Up(alone(api.Gap, "")), -1); !slices.Equal(got, []int{0}) {
		t.Errorf("Up of one node: %v", got)
	}
	if got := stops(Walk(chain(64)), -1); len(got) != 64 || got[63] != (stop{63, 64}) {
		t.Errorf("Walk of the deepest spec: %v", got)
	}
	if got := ups(Up(flat(1024)), -1); len(got) != 1024 || got[0] != 1 || got[1022] != 1023 || got[1023] != 0 {
		t.Errorf("Up of the greatest spec: %v", got)
	}
}

// TestWalkOfNothing: of a spec that may not be there is nothing to go through, and still an iterator.
func TestWalkOfNothing(t *testing.T) {
	for i, s := range wrong() {
		walk, up := Walk(s), Up(s)
		if walk == nil || up == nil {
			t.Fatalf("%d: no iterator", i)
		}
		if a, b := stops(walk, -1), ups(up, -1); len(a) != 0 || len(b) != 0 {
			t.Errorf("%d: Walk %v, Up %v", i, a, b)
		}
	}
}

// TestWalkAgainstModel: as the model goes; left at any step, and gone through again, also while another one goes.
func TestWalkAgainstModel(t *testing.T) {
	for _, s := range thrownSpecs(82, 120) {
		walk, up := Walk(s), Up(s)
		first := grown(s)[0]
		wantWalk, wantUp := modelWalk(first, 1), modelUp(first)
		for leave := range len(s.Nodes) + 1 {
			if got := stops(walk, leave); !slices.Equal(got, wantWalk[:leave]) {
				t.Fatalf("Walk of %v, left at %d: %v, want %v", s, leave, got, wantWalk)
			}
			if got := ups(up, leave); !slices.Equal(got, wantUp[:leave]) {
				t.Fatalf("Up of %v, left at %d: %v, want %v", s, leave, got, wantUp)
			}
		}
		if got := stops(walk, -1); !slices.Equal(got, wantWalk) {
			t.Fatalf("Walk of %v: %v, want %v", s, got, wantWalk)
		}
		i := 0
		for node := range up {
			if node != wantUp[i] || !slices.Equal(ups(up, -1), wantUp) || !slices.Equal(stops(walk, -1), wantWalk) {
				t.Fatalf("Up within Up of %v", s)
			}
			i++
		}
		if i != len(wantUp) {
			t.Fatalf("Up of %v: %d steps", s, i)
		}
	}
}

// TestWalkKeeps: an iterator goes through what was there when the call was made.
func TestWalkKeeps(t *testing.T) {
	for _, s := range thrownSpecs(83, 60) {
		first := grown(s)[0]
		wantWalk, wantUp := modelWalk(first, 1), modelUp(first)
		walk, up := Walk(s), Up(s)
		spoil(s)
		if got := stops(walk, -1); !slices.Equal(got, wantWalk) {
			t.Fatalf("Walk behind a change: %v, want %v", got, wantWalk)
		}
		if got := ups(up, -1); !slices.Equal(got, wantUp) {
			t.Fatalf("Up behind a change: %v, want %v", got, wantUp)
		}
	}
	bad := api.Spec{Nodes: []api.Node{{Kind: api.Box}, {Kind: api.Gap}}}
	walk, up := Walk(bad), Up(bad)
	bad.Nodes[0].Kids = []int{1} // now it may be, but it might not when it was asked
	if len(stops(walk, -1)) != 0 || len(ups(up, -1)) != 0 {
		t.Errorf("Walk or Up of what might not be, and may now")
	}
	s := sampleT()
	var got []int
	for node := range Walk(s) { // changed while it is gone through
		got = append(got, node)
		spoil(s)
	}
	if !slices.Equal(got, []int{0, 2, 3, 1}) {
		t.Errorf("Walk while it is changed: %v", got)
	}
}

// TestWalkFollows: each node once, parents ahead of kids or behind them, depths are the lengths of paths.
func TestWalkFollows(t *testing.T) {
	for _, s := range thrownSpecs(84, 120) {
		walk, up := stops(Walk(s), -1), ups(Up(s), -1)
		if len(walk) != len(s.Nodes) || len(up) != len(s.Nodes) {
			t.Fatalf("Walk %v, Up %v of %d nodes", walk, up, len(s.Nodes))
		}
		ahead, behind := make([]int, len(s.Nodes)), make([]int, len(s.Nodes))
		for i := range s.Nodes {
			ahead[i] = slices.IndexFunc(walk, func(at stop) bool { return at.node == i })
			behind[i] = slices.Index(up, i)
			path, e := Path(s, i)
			if ahead[i] < 0 || behind[i] < 0 || e != api.OK || len(path) != walk[ahead[i]].depth {
				t.Fatalf("the node %d of %v: Walk %v, Up %v, Path %v", i, s, walk, up, path)
			}
		}
		for i, n := range s.Nodes {
			for _, kid := range n.Kids {
				if ahead[kid] <= ahead[i] || behind[kid] >= behind[i] {
					t.Fatalf("the kid %d of %d: Walk %v, Up %v", kid, i, walk, up)
				}
			}
		}
	}
}

// someNumbers are nodes' numbers about a spec, such as it does not have among them.
func someNumbers(s api.Spec) []int {
	l := []int{math.MinInt, -2, -1, len(s.Nodes), len(s.Nodes) + 1, 1024, math.MaxInt}
	for i := range s.Nodes {
		l = append(l, i)
	}
	return l
}

func TestPathParent(t *testing.T) {
	for _, c := range []struct {
		node   int
		path   []int
		parent int
		e      api.Errno
	}{
		{0, []int{0}, -1, api.OK}, {1, []int{0, 1}, 0, api.OK}, {2, []int{0, 2}, 0, api.OK}, {3, []int{0, 2, 3}, 2, api.OK},
		{4, nil, 0, api.ErrNode}, {-1, nil, 0, api.ErrNode}, {math.MinInt, nil, 0, api.ErrNode}, {math.MaxInt, nil, 0, api.ErrNode},
	} {
		path, e := Path(sampleT(), c.node)
		parent, f := Parent(sampleT(), c.node)
		if !slices.Equal(path, c.path) || parent != c.parent || e != c.e || f != c.e {
			t.Errorf("the node %d: Path %v, %d, Parent %d, %d", c.node, path, int(e), parent, int(f))
		}
	}
	for i, s := range wrong() {
		for _, node := range someNumbers(s) { // the spec is asked ahead of the node
			path, e := Path(s, node)
			parent, f := Parent(s, node)
			if len(path) != 0 || parent != 0 || e != api.ErrSpec || f != api.ErrSpec {
				t.Errorf("%d: the node %d: Path %v, %d, Parent %d, %d", i, node, path, int(e), parent, int(f))
			}
		}
	}
	if path, e := Path(chain(64), 63); e != api.OK || len(path) != 64 || path[0] != 0 || path[63] != 63 {
		t.Errorf("Path of the deepest node: %v, %d", path, int(e))
	}
}

// TestPathParentAgainstModel: each path begins at the root, each step is the parent of the next one.
func TestPathParentAgainstModel(t *testing.T) {
	for _, s := range thrownSpecs(85, 120) {
		l := grown(s)
		for _, node := range someNumbers(s) {
			path, e := Path(s, node)
			parent, f := Parent(s, node)
			if node < 0 || node >= len(s.Nodes) {
				if len(path) != 0 || parent != 0 || e != api.ErrNode || f != api.ErrNode {
					t.Fatalf("the node %d: Path %v, %d, Parent %d, %d", node, path, int(e), parent, int(f))
				}
				continue
			}
			want := -1
			if up := l[0].above(l[node]); up != nil {
				want = up.from
			}
			if e != api.OK || f != api.OK || parent != want || path[0] != 0 || path[len(path)-1] != node {
				t.Fatalf("the node %d of %v: Path %v, %d, Parent %d, %d", node, s, path, int(e), parent, int(f))
			}
			for i := range path[1:] {
				if !slices.Contains(s.Nodes[path[i]].Kids, path[i+1]) {
					t.Fatalf("the node %d of %v: Path %v", node, s, path)
				}
				if up, e := Parent(s, path[i+1]); up != path[i] || e != api.OK {
					t.Fatalf("Parent(%v, %d): %d, %d", s, path[i+1], up, int(e))
				}
			}
		}
	}
}

func TestFind(t *testing.T) {
	s := sampleT()
	for _, c := range []struct {
		name string
		node int
		e    api.Errno
	}{
		{"a", 0, api.OK}, {"b", 2, api.OK}, {"c", 3, api.OK}, {"x", 0, api.ErrNode}, {"", 0, api.ErrNode}, {"A", 0, api.ErrNode}, {"a/b", 0, api.ErrNode},
		{"\xff", 0, api.ErrNode}, {strings.Repeat("a", 65), 0, api.ErrNode}, {strings.Repeat("a", 1<<17), 0, api.ErrNode},
	} {
		if node, e := Find(s, c.name); node != c.node || e != c.e {
			t.Errorf("Find(T, %.9q): %d, %d", c.name, node, int(e))
		}
	}
	s.Nodes[1].Name, s.Nodes[3].Name = "", "a/b"
	s.Nodes[2].Wraps = []api.Wrap{{Kind: api.WrapName, Text: "w"}}
	for _, c := range []struct {
		name string
		node int
		e    api.Errno
	}{{"", 1, api.OK}, {"a/b", 3, api.OK}, {"b", 2, api.OK}, {"w", 0, api.ErrNode}} { // a wrapper's name is not the node's
		if node, e := Find(s, c.name); node != c.node || e != c.e {
			t.Errorf("Find(.., %q): %d, %d", c.name, node, int(e))
		}
	}
	s = chain(64)
	if node, e := Find(s, "63"); node != 63 || e != api.OK {
		t.Errorf("Find of the deepest node: %d, %d", node, int(e))
	}
	for i, s := range wrong() {
		for _, name := range []string{"", "a", "0"} {
			if node, e := Find(s, name); node != 0 || e != api.ErrSpec {
				t.Errorf("%d: Find(.., %q): %d, %d", i, name, node, int(e))
			}
		}
	}
}

// named is a spec of names: those with the same letter differ by their numbers alone.
func named() api.Spec {
	box := func(name string, kids ...int) api.Node { return api.Node{Kind: api.Box, Name: name, Kids: kids} }
	return api.Spec{Nodes: []api.Node{
		box("a", 5, 1, 2, 3), box("b", 4), box("b"), box("", 6, 7), box("c"), box("x/y", 8), box("c"), box("", 9), box("z"), box("z"),
	}}
}

func TestNamed(t *testing.T) {
	for _, c := range []struct {
		s    api.Spec
		path string
		node int
		e    api.Errno
	}{
		{sampleT(), "a/b/c", 3, api.OK}, {sampleT(), "a/c", 0, api.ErrPath}, {sampleT(), "", 0, api.ErrPath}, {sampleT(), "a", 0, api.OK}, {sampleT(), "a/b", 2, api.OK},
		{sampleT(), "b", 0, api.ErrPath}, {sampleT(), "a/a", 0, api.ErrPath}, {sampleT(), "a/b/c/d", 0, api.ErrPath}, {sampleT(), "/a", 0, api.ErrPath}, {sampleT(), "a/", 0, api.ErrPath},

		// Of several the first one among the kids; a way that ends is not left for another one.
		{named(), "a/b", 1, api.OK}, {named(), "a/b/c", 4, api.OK}, {named(), "a//c", 6, api.OK}, {named(), "a/c", 0, api.ErrPath},

		// Empty names, by slashes at the end, at the beginning and in a row.
		{named(), "a/", 3, api.OK}, {named(), "a//", 7, api.OK}, {named(), "a///z", 9, api.OK}, {named(), "a///", 0, api.ErrPath}, {named(), "a/b/", 0, api.ErrPath}, {named(), "/a", 0, api.ErrPath}, {named(), "//", 0, api.ErrPath}, {named(), "", 0, api.ErrPath},
		{alone(api.Gap, ""), "", 0, api.OK}, {alone(api.Gap, ""), "/", 0, api.ErrPath}, {alone(api.Gap, ""), "a", 0, api.ErrPath},
		{api.Spec{Nodes: []api.Node{{Kind: api.Box, Kids: []int{1}}, {Kind: api.Box, Kids: []int{2}}, {Kind: api.Gap}}}, "//", 2, api.OK},
		{api.Spec{Nodes: []api.Node{{Kind: api.Box, Kids: []int{1}}, {Kind: api.Gap, Name: "a"}}}, "/a", 1, api.OK},

		// Names with slashes are on no path.
		{named(), "a/x/y", 0, api.ErrPath}, {named(), "a/x/y/z", 0, api.ErrPath}, {alone(api.Gap, "a/b"), "a/b", 0, api.ErrPath}, {alone(api.Gap, "/"), "/", 0, api.ErrPath},

		{sampleT(), "a/\xff", 0, api.ErrPath}, {sampleT(), strings.Repeat("a/", 1<<17), 0, api.ErrPath}, {sampleT(), strings.Repeat("/", 1<<17), 0, api.ErrPath}, {sampleT(), "a\\b", 0, api.ErrPath},
	} {
		if node, e := Named(c.s, c.path); node != c.node || e != c.e {
			t.Errorf("Named(.., %.20q): %d, %d, want %d, %d", c.path, node, int(e), c.node, int(c.e))
		}
	}
	// The first one is found, and what another one of this name has is not.
	twins := api.Spec{Nodes: []api.Node{{Kind: api.Box, Name: "a", Kids: []int{1, 2}}, {Kind: api.Box, Name: "b"}, {Kind: api.Box, Name: "b", Kids: []int{3}}, {Kind: api.Gap, Name: "c"}}}
	if node, e := Named(twins, "a/b/c"); node != 0 || e != api.ErrPath {
		t.Errorf("Named of twins: %d, %d", node, int(e))
	}
	twins.Nodes[0].Kids = []int{2, 1}
	if node, e := Named(twins, "a/b/c"); node != 3 || e != api.OK {
		t.Errorf("Named of twins the other way round: %d, %d", node, int(e))
	}
	for i, s := range wrong() {
		for _, path := range []string{"", "/", "a", "0"} {
			if node, e := Named(s, path); node != 0 || e != api.ErrSpec {
				t.Errorf("%d: Named(.., %q): %d, %d", i, path, node, int(e))
			}
		}
	}
	var names []string
	for i := range 64 {
		names = append(names, strconv.Itoa(i))
	}
	if node, e := Named(chain(64), strings.Join(names, "/")); node != 63 || e != api.OK {
		t.Errorf("Named of the longest path: %d, %d", node, int(e))
	}
}

// TestFindNamedAgainstModel: what Find tells comes first in the walk, and names on the way to it lead where the first ones of them lead.
func TestFindNamedAgainstModel(t *testing.T) {
	for _, s := range thrownSpecs(86, 150) {
		for _, name := range []string{"a", "b", "c", "", "a/b", "x"} {
			want, wantE := 0, api.ErrNode
			for _, w := range grown(s)[0].all() {
				if w.node.Name == name {
					want, wantE = w.from, api.OK
					break
				}
			}
			node, e := Find(s, name)
			if node != want || e != wantE {
				t.Fatalf("Find(%v, %q): %d, %d", s, name, node, int(e))
			}
			if path, _ := Path(s, node); e == api.OK && path[len(path)-1] != node {
				t.Fatalf("Path of what Find tells: %v, %d", path, node)
			}
		}
		for i := range s.Nodes {
			path, _ := Path(s, i)
			var names []string
			for _, node := range path {
				names = append(names, s.Nodes[node].Name)
			}
			text := strings.Join(names, "/")
			want, wantE := modelNamed(grown(s)[0], strings.Split(text, "/"))
			if node, e := Named(s, text); node != want || e != wantE {
				t.Fatalf("Named(%v, %q): %d, %d, want %d, %d", s, text, node, int(e), want, int(wantE))
			}
		}
	}
}

func modelNamed(w *twig, names []string) (int, api.Errno) {
	if w.node.Name != names[0] {
		return 0, api.ErrPath
	}
	if len(names) == 1 {
		return w.from, api.OK
	}
	for _, kid := range w.kids {
		if kid.node.Name == names[1] {
			return modelNamed(kid, names[1:])
		}
	}
	return 0, api.ErrPath
}

// TestMade: the parts by their numbers, each with its wrappers, and with the parts of its kids in it.
func TestMade(t *testing.T) {
	for _, s := range append(thrownSpecs(87, 150), sampleT(), flat(1024), chain(64)) {
		made, e := Made(s)
		if e != api.OK || len(made) != len(s.Nodes) {
			t.Fatalf("Made(%v): %v, %d", s, made, int(e))
		}
		for i, n := range s.Nodes {
			kids := make([]part.Part, len(n.Kids))
			for at, kid := range n.Kids {
				kids[at] = made[kid]
			}
			want, _ := wrap.Made(n, kids)
			p := made[i]
			if p == nil || p.Kind() != want.Kind() || p.Name() != want.Name() || part.None(p) != part.None(want) || part.Can(p) != part.Can(want) {
				t.Fatalf("Made(%v): %d is a %T", s, i, p)
			}
			bare, _ := part.Make(n, kids)
			if says, _ := wrap.Says(part.Can(bare), n.Wraps); part.Can(p) != says { // W1
				t.Fatalf("Made(%v): %d can %d, and its wrappers say %d", s, i, part.Can(p), says)
			}
			got, e := part.Parts(p)
			told, f := part.Parts(want)
			if !slices.Equal(got, told) || e != f {
				t.Fatalf("Made(%v): %d holds %v, %d", s, i, got, int(e))
			}
			size, e := part.Measure(p, api.Size{})
			asked, f := part.Measure(want, api.Size{})
			order, g := part.Order(p)
			first, h := part.Order(want)
			if size != asked || e != f || order != first || g != h {
				t.Fatalf("Made(%v): %d measures %v, %d, and has the order %d, %d", s, i, size, int(e), order, int(g))
			}
		}
	}
	for i, s := range wrong() {
		if made, e := Made(s); len(made) != 0 || e != api.ErrSpec {
			t.Errorf("%d: Made: %v, %d", i, made, int(e))
		}
	}
}

// TestMadeWraps: wrappers hide, add and pad; a hollow part is held as any other one, and what is in it is made all the same.
func TestMadeWraps(t *testing.T) {
	s := api.Spec{Nodes: []api.Node{
		{Kind: api.Box, Name: "root", Kids: []int{3, 1, 2}},
		{Kind: api.Button, Name: "ok", Text: "ok", Order: 5, Wraps: []api.Wrap{{Kind: api.WrapPad, Number: 1}, {Kind: api.WrapName, Text: "go"}, {Kind: api.WrapHide, Mask: api.Focuses}}},
		{Kind: api.Box, Name: "half", Kids: []int{4}, Wraps: []api.Wrap{{Kind: api.WrapHalf}}},
		{Kind: api.Scroll, Name: "scroll", Off: api.Point{X: 3, Y: 4}, Kids: []int{5}, Hidden: true},
		{Kind: api.Label, Name: "in", Text: "abc"},
		{Kind: api.Box, Kids: []int{6, 7}, Wraps: []api.Wrap{{Kind: api.WrapHide, Mask: api.Holds}, {Kind: api.WrapFocus, Number: 9}}},
		{Kind: api.Field}, {Kind: api.Canvas, Wraps: []api.Wrap{{Kind: api.WrapHalf}, {Kind: api.WrapDrop, Text: "file"}}},
	}}
	made, e := Made(s)
	if e != api.OK || len(made) != 8 {
		t.Fatalf("Made: %v, %d", made, int(e))
	}
	for i, c := range []struct {
		kind uint8
		name string
		can  uint16
		none bool
	}{
		{api.Box, "root", 33, false}, {api.Button, "go", 3, false}, {0, "", 0, true}, {api.Scroll, "scroll", 47, false},
		{api.Label, "in", 3, false}, {api.Box, "", 5, false}, {api.Field, "", 23, false}, {api.Gap, "", 16, false},
	} {
		if p := made[i]; p.Kind() != c.kind || p.Name() != c.name || part.Can(p) != c.can || part.None(p) != c.none {
			t.Errorf("the part %d: %d, %q, %d, %v", i, p.Kind(), p.Name(), part.Can(p), part.None(p))
		}
	}
	if parts, e := part.Parts(made[0]); e != api.OK || !slices.Equal(parts, []part.Part{made[3], made[1], made[2]}) {
		t.Errorf("the root holds %v, %d", parts, int(e))
	}
	if parts, e := part.Parts(made[3]); e != api.OK || !slices.Equal(parts, []part.Part{made[5]}) {
		t.Errorf("the scroll holds %v, %d", parts, int(e))
	}
	for _, i := range []int{2, 5} {
		if parts, e := part.Parts(made[i]); e != api.ErrNone || len(parts) != 0 {
			t.Errorf("%d holds %v, %d", i, parts, int(e))
		}
	}
	inner, steps := wrap.Inner(made[5])
	if parts, e := part.Parts(inner); steps != 2 || e != api.OK || !slices.Equal(parts, []part.Part{made[6], made[7]}) {
		t.Errorf("within 5: %v, %d", parts, int(e))
	}
	if size, e := part.Measure(made[1], api.Size{}); e != api.OK || size != (api.Size{W: 8, H: 3}) {
		t.Errorf("the button measures %v, %d", size, int(e))
	}
	if off, e := part.Offset(made[3]); e != api.OK || off != (api.Point{X: 3, Y: 4}) {
		t.Errorf("the scroll's offset: %v, %d", off, int(e))
	}
}
