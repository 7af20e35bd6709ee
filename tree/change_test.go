package tree

import (
	"math"
	"math/rand"
	"slices"
	"strconv"
	"testing"

	"casement/api"
)

// told holds a spec to kinds, names and kids, node by node.
func told(t *testing.T, what string, s api.Spec, e api.Errno, want ...api.Node) {
	t.Helper()
	if e != api.OK || !alike(s, api.Spec{Nodes: want}) {
		t.Errorf("%s: %v, %d, want %v", what, s, int(e), want)
	}
}

// refused holds an error to be the one that is wanted, with nothing beside it.
func refused(t *testing.T, what string, s api.Spec, e, want api.Errno) {
	t.Helper()
	if e != want || len(s.Nodes) != 0 {
		t.Errorf("%s: %.200v, %d, want %d", what, s, int(e), int(want))
	}
}

func box(name string, kids ...int) api.Node {
	return api.Node{Kind: api.Box, Name: name, Kids: kids}
}

func label(name string) api.Node {
	return api.Node{Kind: api.Label, Name: name}
}

func TestChangeExamples(t *testing.T) {
	s, e := Norm(sampleT())
	told(t, "Norm(T)", s, e, box("a", 1, 3), box("b", 2), label("c"), label("b"))
	s, e = Cut(sampleT(), 2)
	told(t, "Cut(T, 2)", s, e, box("b", 1), label("c"))
	x := alone(api.Label, "x")
	s, e = Put(sampleT(), 0, 1, x)
	told(t, "Put(T, 0, 1, L)", s, e, box("a", 1, 3, 4), box("b", 2), label("c"), label("x"), label("b"))
	s, e = Put(sampleT(), 1, 0, x)
	refused(t, "Put(T, 1, 0, L)", s, e, api.ErrSpec)
	s, e = Put(sampleT(), 0, 3, x)
	refused(t, "Put(T, 0, 3, L)", s, e, api.ErrArg)
	s, e = Put(sampleT(), 9, 0, x)
	refused(t, "Put(T, 9, 0, L)", s, e, api.ErrNode)
	s, e = Take(sampleT(), 2)
	told(t, "Take(T, 2)", s, e, box("a", 1), label("b"))
	s, e = Take(sampleT(), 0)
	refused(t, "Take(T, 0)", s, e, api.ErrArg)
	s, e = Move(sampleT(), 3, 0, 0)
	told(t, "Move(T, 3, 0, 0)", s, e, box("a", 1, 2, 3), label("c"), box("b"), label("b"))
	s, e = Move(sampleT(), 2, 3, 0)
	refused(t, "Move(T, 2, 3, 0)", s, e, api.ErrCycle)
	s, e = Move(sampleT(), 1, 2, 2)
	refused(t, "Move(T, 1, 2, 2)", s, e, api.ErrArg)
}

// TestNorm: the i-th node of the walk has the number i, and all else stays.
func TestNorm(t *testing.T) {
	for i, s := range wrong() {
		got, e := Norm(s)
		refused(t, "Norm of the wrong spec "+strconv.Itoa(i), got, e, api.ErrSpec)
	}
	for _, s := range append(thrownSpecs(88, 200), flat(1), flat(1024), chain(64)) {
		norm, e := Norm(s)
		holdSpec(t, "Norm", norm, e, grown(s)[0].spec(), api.OK)
		again, e := Norm(norm)
		holdSpec(t, "Norm of a Norm", again, e, norm, api.OK)
		if !Same(norm, again) {
			t.Fatalf("Norm of a Norm: %v, %v", norm, again)
		}
		var names, before []string
		i := 0
		for node := range Walk(norm) {
			if node != i {
				t.Fatalf("Walk of a Norm: %d is the step %d", node, i)
			}
			names = append(names, norm.Nodes[node].Name)
			i++
		}
		for node := range Walk(s) {
			before = append(before, s.Nodes[node].Name)
		}
		if !slices.Equal(names, before) {
			t.Fatalf("Norm has the names %v, want %v", names, before)
		}
	}
}

// TestCut: any node, with all below it.
func TestCut(t *testing.T) {
	for i, s := range wrong() {
		for _, node := range someNumbers(s) {
			got, e := Cut(s, node)
			refused(t, "Cut of the wrong spec "+strconv.Itoa(i), got, e, api.ErrSpec)
		}
	}
	for _, s := range append(thrownSpecs(89, 100), chain(64)) {
		for _, node := range someNumbers(s) {
			got, e := Cut(s, node)
			want, wantE := modelCut(s, node)
			holdSpec(t, "Cut", got, e, want, wantE)
		}
		whole, e := Cut(s, 0)
		norm, _ := Norm(s)
		holdSpec(t, "Cut of the root", whole, e, norm, api.OK)
	}
}

// TestTake: a node goes with all below it; the root can't.
func TestTake(t *testing.T) {
	for i, s := range wrong() {
		for _, node := range someNumbers(s) {
			got, e := Take(s, node)
			refused(t, "Take from the wrong spec "+strconv.Itoa(i), got, e, api.ErrSpec)
		}
	}
	for _, s := range append(thrownSpecs(90, 100), chain(64)) {
		for _, node := range someNumbers(s) {
			got, e := Take(s, node)
			want, wantE := modelTake(s, node)
			holdSpec(t, "Take", got, e, want, wantE)
			if cut, f := Cut(s, node); e == api.OK && (f != api.OK || len(cut.Nodes)+len(got.Nodes) != len(s.Nodes)) {
				t.Fatalf("Take has %d nodes, Cut %d, and the spec %d", len(got.Nodes), len(cut.Nodes), len(s.Nodes))
			}
		}
	}
}

// TestPutErrors: one behind the other, each ahead of all that come later.
func TestPutErrors(t *testing.T) {
	bad, many := api.Spec{}, flat(1024)
	x := alone(api.Gap, "x")
	scroll := api.Spec{Nodes: []api.Node{{Kind: api.Scroll, Kids: []int{1}}, {Kind: api.Gap}}}
	for _, c := range []struct {
		what     string
		s        api.Spec
		node, at int
		t        api.Spec
		want     api.Errno
	}{
		{"a wrong s, and all else", bad, -1, -1, bad, api.ErrSpec},
		{"a wrong s, and a node", chain(65), 99, -1, bad, api.ErrSpec},
		{"no such node, and all else", sampleT(), 4, -1, bad, api.ErrNode}, {"a node below 0", sampleT(), -1, 9, many, api.ErrNode}, {"nodes far away", sampleT(), math.MaxInt, 0, x, api.ErrNode}, {"nodes far below", sampleT(), math.MinInt, 0, x, api.ErrNode},
		{"no such place, and all else", sampleT(), 1, 1, bad, api.ErrArg}, {"a place below 0", sampleT(), 0, -1, bad, api.ErrArg}, {"one beyond the end", sampleT(), 0, 3, many, api.ErrArg}, {"places far away", sampleT(), 0, math.MaxInt, x, api.ErrArg}, {"places far below", sampleT(), 0, math.MinInt, x, api.ErrArg}, {"one beyond the end of none", sampleT(), 3, 1, x, api.ErrArg},
		{"a wrong t", sampleT(), 0, 0, bad, api.ErrSpec}, {"a wrong t, and a kind that holds nothing", sampleT(), 1, 0, flat(1025), api.ErrSpec}, {"a wrong t and many nodes", flat(1024), 0, 0, chain(65), api.ErrSpec},
		{"many nodes, and a kind that holds nothing", sampleT(), 1, 0, many, api.ErrMany}, {"one node more", flat(1024), 0, 0, x, api.ErrMany}, {"one node more, of both", flat(512), 0, 511, flat(513), api.ErrMany}, {"just as many", flat(512), 0, 511, flat(512), api.OK}, {"just one more", flat(1023), 0, 1022, x, api.OK}, {"just one less", x, 0, 0, flat(1023), api.ErrSpec},
		{"many nodes, too deep", chain(64), 63, 0, flat(1000), api.ErrMany},
		{"too deep", chain(64), 63, 0, x, api.ErrSpec}, {"just as deep", chain(63), 62, 0, x, api.OK}, {"as deep by both", chain(30), 29, 0, chain(34), api.OK}, {"too deep by both", chain(30), 29, 0, chain(35), api.ErrSpec}, {"deep beside", chain(64), 0, 1, chain(63), api.OK}, {"too deep beside", chain(64), 0, 0, chain(64), api.ErrSpec}, {"twice as deep", chain(64), 63, 0, chain(64), api.ErrSpec},
		{"a scroll with one", scroll, 0, 0, x, api.ErrSpec}, {"a scroll with one, behind it", scroll, 0, 1, x, api.ErrSpec}, {"a scroll with none", alone(api.Scroll, ""), 0, 0, x, api.OK}, {"a scroll, one beyond", scroll, 0, 2, x, api.ErrArg},
	} {
		got, e := Put(c.s, c.node, c.at, c.t)
		if e != c.want || e != api.OK && len(got.Nodes) != 0 {
			t.Errorf("Put, %s: %d, want %d", c.what, int(e), int(c.want))
		}
		if want, f := modelPut(c.s, c.node, c.at, c.t); f != c.want || !alike(got, want) {
			t.Errorf("Put, %s: the model says %d", c.what, int(f))
		}
	}
	for _, kind := range modelKinds() {
		_, e := Put(alone(kind, ""), 0, 0, x)
		holds := kind == api.Box || kind == api.Grid || kind == api.Stack || kind == api.Scroll
		if holds && e != api.OK || !holds && e != api.ErrSpec {
			t.Errorf("Put under the kind %d: %d", kind, int(e))
		}
	}
}

// TestPutAgainstModel: at all places of all nodes; and what follows of it.
func TestPutAgainstModel(t *testing.T) {
	dice := rand.New(rand.NewSource(91))
	put := 0
	for _, s := range thrownSpecs(92, 100) {
		more := thrownSpec(dice, 1+dice.Intn(9))
		norm, _ := Norm(s)
		normMore, _ := Norm(more)
		for node := -1; node <= len(s.Nodes); node++ {
			kids := 0
			if node >= 0 && node < len(s.Nodes) {
				kids = len(s.Nodes[node].Kids)
			}
			for at := -1; at <= kids+1; at++ {
				got, e := Put(s, node, at, more)
				want, wantE := modelPut(s, node, at, more)
				holdSpec(t, "Put", got, e, want, wantE)
				if e != api.OK {
					continue
				}
				put++
				there := whereKid(t, s, norm, got, node, at)
				back, e := Take(got, there)
				holdSpec(t, "Take of what Put put in", back, e, norm, api.OK)
				cut, e := Cut(got, there)
				holdSpec(t, "Cut of what Put put in", cut, e, normMore, api.OK)
			}
		}
		twice, e := Put(s, 0, 0, s) // one spec, handed in twice
		want, wantE := modelPut(s, 0, 0, s)
		holdSpec(t, "Put of a spec into itself", twice, e, want, wantE)
	}
	if put < 500 {
		t.Errorf("only %d Puts", put)
	}
}

// whereKid is the number in what Put answered of the kid with the number at of a node of s: the node comes as early in the walk of both, as nothing was put in ahead of it.
func whereKid(t *testing.T, s, norm, got api.Spec, node, at int) int {
	t.Helper()
	i := 0
	for one := range Walk(s) {
		if one == node {
			break
		}
		i++
	}
	if len(got.Nodes[i].Kids) != len(norm.Nodes[i].Kids)+1 {
		t.Fatalf("the node %d has the kids %v", i, got.Nodes[i].Kids)
	}
	return got.Nodes[i].Kids[at]
}

// TestPutBack: Put of Cut into Take, where it was, is Norm.
func TestPutBack(t *testing.T) {
	for _, s := range append(thrownSpecs(93, 100), chain(64), sampleT()) {
		norm, _ := Norm(s)
		for node := 1; node < len(norm.Nodes); node++ {
			parent, _ := Parent(norm, node)
			at := slices.Index(norm.Nodes[parent].Kids, node)
			cut, e := Cut(norm, node)
			rest, f := Take(norm, node)
			if e != api.OK || f != api.OK {
				t.Fatalf("Cut %d, Take %d", int(e), int(f))
			}
			whole, e := Put(rest, parent, at, cut) // the parent comes ahead in the walk, so its number stays
			holdSpec(t, "Put of Cut into Take", whole, e, norm, api.OK)
		}
	}
}

// TestMoveErrors: one behind the other, each ahead of all that come later.
func TestMoveErrors(t *testing.T) {
	scrolls := api.Spec{Nodes: []api.Node{box("", 1, 2, 3), {Kind: api.Scroll, Kids: []int{4}}, {Kind: api.Scroll}, label(""), label("")}}
	deep := chain(64)
	deep.Nodes = append(deep.Nodes, box("", 65), label(""))
	deep.Nodes[0].Kids = []int{1, 64}
	for _, c := range []struct {
		what         string
		s            api.Spec
		node, to, at int
		want         api.Errno
	}{
		{"a wrong spec, and all else", api.Spec{}, -1, -1, -1, api.ErrSpec}, {"a wrong spec", chain(65), 0, 0, -1, api.ErrSpec},
		{"no such node", sampleT(), 4, 0, -1, api.ErrNode}, {"a node below 0", sampleT(), -1, 0, 0, api.ErrNode}, {"nodes far away", sampleT(), math.MaxInt, math.MinInt, 0, api.ErrNode},
		{"no such node to go to", sampleT(), 1, 4, 0, api.ErrNode}, {"one below 0 to go to", sampleT(), 1, -1, 0, api.ErrNode}, {"the root, to where nothing is", sampleT(), 0, 4, 0, api.ErrNode}, {"the root, to what is below 0", sampleT(), 0, math.MinInt, -1, api.ErrNode},
		{"the root", sampleT(), 0, 2, 0, api.ErrArg}, {"the root into itself", sampleT(), 0, 0, 0, api.ErrArg}, {"the root into itself, nowhere", sampleT(), 0, 0, -1, api.ErrArg}, {"a root alone", alone(api.Box, ""), 0, 0, 0, api.ErrArg},
		{"into itself", sampleT(), 2, 2, 0, api.ErrCycle}, {"into itself, nowhere", sampleT(), 2, 2, -1, api.ErrCycle}, {"below itself", sampleT(), 2, 3, 0, api.ErrCycle}, {"below itself, nowhere", sampleT(), 2, 3, 9, api.ErrCycle}, {"far below itself", chain(64), 1, 63, 0, api.ErrCycle}, {"a label into itself", sampleT(), 1, 1, 0, api.ErrCycle},
		{"beyond the end", sampleT(), 1, 2, 2, api.ErrArg}, {"below 0", sampleT(), 1, 2, -1, api.ErrArg}, {"far away", sampleT(), 1, 2, math.MaxInt, api.ErrArg}, {"far below", sampleT(), 1, 2, math.MinInt, api.ErrArg}, {"beyond the end, itself not counted", sampleT(), 1, 0, 2, api.ErrArg}, {"at the end, itself not counted", sampleT(), 1, 0, 1, api.OK}, {"at the end of another one", sampleT(), 1, 2, 1, api.OK}, {"beyond the end of a kind that holds nothing", sampleT(), 3, 1, 1, api.ErrArg},
		{"to a kind that holds nothing", sampleT(), 3, 1, 0, api.ErrSpec}, {"to a scroll with one", scrolls, 3, 1, 0, api.ErrSpec}, {"to a scroll with one, behind it", scrolls, 3, 1, 1, api.ErrSpec}, {"to a scroll with none", scrolls, 3, 2, 0, api.OK}, {"from a scroll to where it is", scrolls, 4, 1, 0, api.OK}, {"from a scroll, one beyond", scrolls, 4, 1, 1, api.ErrArg}, {"from a scroll to another one", scrolls, 4, 2, 0, api.OK},
		{"too deep", deep, 64, 63, 0, api.ErrSpec}, {"too deep by what is below", deep, 64, 62, 0, api.ErrSpec}, {"just as deep", deep, 64, 61, 0, api.OK}, {"just as deep, alone", deep, 65, 62, 1, api.OK}, {"too deep, alone", deep, 65, 63, 0, api.ErrSpec},
		{"to what has a greater number", sampleT(), 1, 2, 0, api.OK},
	} {
		got, e := Move(c.s, c.node, c.to, c.at)
		if e != c.want || e != api.OK && len(got.Nodes) != 0 {
			t.Errorf("Move, %s: %d, want %d", c.what, int(e), int(c.want))
		}
		if want, f := modelMove(c.s, c.node, c.to, c.at); f != c.want || !alike(got, want) {
			t.Errorf("Move, %s: the model says %d", c.what, int(f))
		}
	}
}

// TestMoveWithin: among the kids of one node, at counts without the node itself.
func TestMoveWithin(t *testing.T) {
	s := api.Spec{Nodes: []api.Node{box("", 2, 1, 4, 3), label("1"), label("2"), label("3"), label("4")}}
	for _, c := range []struct {
		node, at int
		want     string
	}{
		{2, 0, "2143"}, {2, 1, "1243"}, {2, 2, "1423"}, {2, 3, "1432"},
		{1, 0, "1243"}, {1, 1, "2143"}, {1, 2, "2413"}, {1, 3, "2431"},
		{3, 0, "3214"}, {3, 1, "2314"}, {3, 2, "2134"}, {3, 3, "2143"},
	} {
		got, e := Move(s, c.node, 0, c.at)
		names := ""
		for _, n := range got.Nodes {
			names += n.Name
		}
		if e != api.OK || names != c.want {
			t.Errorf("Move of %d to %d: %q, %d, want %q", c.node, c.at, names, int(e), c.want)
		}
	}
	s, e := Move(sampleT(), 1, 2, 0) // under one with a greater number, ahead of what is there
	told(t, "Move(T, 1, 2, 0)", s, e, box("a", 1), box("b", 2, 3), label("b"), label("c"))
	s, e = Move(sampleT(), 2, 0, 1) // with what is below it
	told(t, "Move(T, 2, 0, 1)", s, e, box("a", 1, 2), label("b"), box("b", 3), label("c"))
}

// TestMoveAgainstModel: each node to all places of each.
func TestMoveAgainstModel(t *testing.T) {
	moved := 0
	for _, s := range thrownSpecs(94, 46) {
		norm, _ := Norm(s)
		for node := -1; node <= len(s.Nodes); node++ {
			for to := -1; to <= len(s.Nodes); to++ {
				kids := 0
				if to >= 0 && to < len(s.Nodes) {
					kids = len(s.Nodes[to].Kids)
				}
				for at := -1; at <= kids+1; at++ {
					got, e := Move(s, node, to, at)
					want, wantE := modelMove(s, node, to, at)
					holdSpec(t, "Move", got, e, want, wantE)
					if e != api.OK {
						continue
					}
					moved++
					if len(got.Nodes) != len(s.Nodes) {
						t.Fatalf("Move: %d nodes", len(got.Nodes))
					}
					if s.Nodes[to].Kids != nil && at < kids && s.Nodes[to].Kids[at] == node && !Same(got, norm) {
						t.Fatalf("Move to where a node is: %v, want %v", got, norm)
					}
				}
			}
		}
	}
	if moved < 1000 {
		t.Errorf("only %d Moves", moved)
	}
}
