package tree

import (
	"math/rand"
	"slices"
	"strconv"
	"testing"

	"casement/api"
)

// twig is the model: a node with its own kids, without numbers.
type twig struct {
	node api.Node
	from int // the number that it had
	kids []*twig
}

// grown is a spec that may be as twigs, by their numbers; the first one is the root.
func grown(s api.Spec) []*twig {
	l := make([]*twig, len(s.Nodes))
	for i, n := range s.Nodes {
		l[i] = &twig{node: n, from: i}
	}
	for i, n := range s.Nodes {
		for _, kid := range n.Kids {
			l[i].kids = append(l[i].kids, l[kid])
		}
	}
	return l
}

// all are a twig and those below it, as the walk goes.
func (w *twig) all() []*twig {
	l := []*twig{w}
	for _, kid := range w.kids {
		l = append(l, kid.all()...)
	}
	return l
}

// deep is how many twigs lie in one another.
func (w *twig) deep() int {
	n := 0
	for _, kid := range w.kids {
		n = max(n, kid.deep())
	}
	return n + 1
}

// spec is the one form of a twig and those below it.
func (w *twig) spec() api.Spec {
	l := w.all()
	var s api.Spec
	for _, one := range l {
		n := one.node
		n.Wraps, n.Kids = slices.Clone(n.Wraps), nil
		for _, kid := range one.kids {
			n.Kids = append(n.Kids, slices.Index(l, kid))
		}
		s.Nodes = append(s.Nodes, n)
	}
	return s
}

// above is the twig that has another one; nil, if none has.
func (w *twig) above(one *twig) *twig {
	for _, w := range w.all() {
		if slices.Contains(w.kids, one) {
			return w
		}
	}
	return nil
}

// fits tells whether all twigs hold as many as their kinds may, and none lies too deep.
func (w *twig) fits() bool {
	for _, one := range w.all() {
		switch one.node.Kind {
		case api.Box, api.Grid, api.Stack:
		case api.Scroll:
			if len(one.kids) > 1 {
				return false
			}
		default:
			if len(one.kids) > 0 {
				return false
			}
		}
	}
	return w.deep() <= 64
}

func modelPut(s api.Spec, node, at int, t api.Spec) (api.Spec, api.Errno) {
	if Check(s) != api.OK {
		return api.Spec{}, api.ErrSpec
	}
	if node < 0 || node >= len(s.Nodes) {
		return api.Spec{}, api.ErrNode
	}
	l := grown(s)
	to := l[node]
	if at < 0 || at > len(to.kids) {
		return api.Spec{}, api.ErrArg
	}
	if Check(t) != api.OK {
		return api.Spec{}, api.ErrSpec
	}
	if len(s.Nodes)+len(t.Nodes) > 1024 {
		return api.Spec{}, api.ErrMany
	}
	to.kids = slices.Insert(to.kids, at, grown(t)[0])
	if !l[0].fits() {
		return api.Spec{}, api.ErrSpec
	}
	return l[0].spec(), api.OK
}

func modelTake(s api.Spec, node int) (api.Spec, api.Errno) {
	if Check(s) != api.OK {
		return api.Spec{}, api.ErrSpec
	}
	if node < 0 || node >= len(s.Nodes) {
		return api.Spec{}, api.ErrNode
	}
	if node == 0 {
		return api.Spec{}, api.ErrArg
	}
	l := grown(s)
	up := l[0].above(l[node])
	at := slices.Index(up.kids, l[node])
	up.kids = slices.Delete(up.kids, at, at+1)
	return l[0].spec(), api.OK
}

func modelMove(s api.Spec, node, to, at int) (api.Spec, api.Errno) {
	if Check(s) != api.OK {
		return api.Spec{}, api.ErrSpec
	}
	for _, n := range []int{node, to} {
		if n < 0 || n >= len(s.Nodes) {
			return api.Spec{}, api.ErrNode
		}
	}
	if node == 0 {
		return api.Spec{}, api.ErrArg
	}
	l := grown(s)
	if slices.Contains(l[node].all(), l[to]) {
		return api.Spec{}, api.ErrCycle
	}
	up := l[0].above(l[node])
	up.kids = slices.DeleteFunc(up.kids, func(w *twig) bool { return w == l[node] })
	if at < 0 || at > len(l[to].kids) {
		return api.Spec{}, api.ErrArg
	}
	l[to].kids = slices.Insert(l[to].kids, at, l[node])
	if !l[0].fits() {
		return api.Spec{}, api.ErrSpec
	}
	return l[0].spec(), api.OK
}

func modelCut(s api.Spec, node int) (api.Spec, api.Errno) {
	if Check(s) != api.OK {
		return api.Spec{}, api.ErrSpec
	}
	if node < 0 || node >= len(s.Nodes) {
		return api.Spec{}, api.ErrNode
	}
	return grown(s)[node].spec(), api.OK
}

// modelShape is what DOC.md says of the Kids of a spec, word by word; what else a node may be, it does not ask.
func modelShape(s api.Spec) bool {
	if len(s.Nodes) < 1 || len(s.Nodes) > 1024 {
		return false
	}
	stands := make([]int, len(s.Nodes))
	depth := make([]int, len(s.Nodes))
	depth[0] = 1
	for i, n := range s.Nodes {
		holds := n.Kind == api.Box || n.Kind == api.Grid || n.Kind == api.Stack || n.Kind == api.Scroll && len(n.Kids) == 1
		if len(n.Kids) > 0 && !holds {
			return false
		}
		for _, kid := range n.Kids {
			if kid < 0 || kid >= len(s.Nodes) || kid <= i {
				return false
			}
			stands[kid]++
			depth[kid] = depth[i] + 1
		}
	}
	for i := range s.Nodes {
		if i == 0 && stands[i] != 0 || i > 0 && stands[i] != 1 || depth[i] > 64 {
			return false
		}
	}
	return true
}

// modelKinds are all ten.
func modelKinds() []uint8 {
	return []uint8{api.Label, api.Button, api.Field, api.Box, api.Grid, api.Scroll, api.Spinner, api.Canvas, api.Gap, api.Stack}
}

// thrownNode has something in each field, so that a field that goes lost is seen.
func thrownNode(dice *rand.Rand, kind uint8) api.Node {
	n := api.Node{
		Kind: kind, Name: []string{"a", "b", "c", "", "a/b"}[dice.Intn(5)], Class: "class" + strconv.Itoa(dice.Intn(9)), Text: "text" + strconv.Itoa(dice.Intn(1000)),
		Min: api.Size{W: dice.Intn(9), H: dice.Intn(9)}, Max: api.Size{W: 10 + dice.Intn(9), H: 10 + dice.Intn(9)},
		Grow: dice.Intn(9), Order: dice.Intn(9) - 1, Column: dice.Intn(2) == 0, Columns: dice.Intn(9), Span: dice.Intn(9), Gap: dice.Intn(9),
		Off: api.Point{X: dice.Intn(9), Y: dice.Intn(9)}, Hidden: dice.Intn(4) == 0,
	}
	for range dice.Intn(4) {
		n.Wraps = append(n.Wraps, someWraps()[dice.Intn(len(someWraps()))])
	}
	return n
}

// someWraps are wrappers that may be, of all kinds.
func someWraps() []api.Wrap {
	return []api.Wrap{
		{Kind: api.WrapHide, Mask: 5}, {Kind: api.WrapOnly, Mask: 35}, {Kind: api.WrapPad, Number: 2}, {Kind: api.WrapName, Text: "other"},
		{Kind: api.WrapFocus, Number: 7}, {Kind: api.WrapDrop, Text: "file"}, {Kind: api.WrapHalf},
	}
}

// thrownSpec is one that may be, of as many nodes: numbers go upward from the root, but not as the walk goes.
func thrownSpec(dice *rand.Rand, nodes int) api.Spec {
	s := api.Spec{Nodes: []api.Node{thrownNode(dice, []uint8{api.Box, api.Grid, api.Stack}[dice.Intn(3)])}}
	depth := []int{1}
	for len(s.Nodes) < nodes {
		up := dice.Intn(len(s.Nodes))
		if dice.Intn(3) == 0 {
			up = len(s.Nodes) - 1 // some go deep
		}
		switch n := s.Nodes[up]; {
		case depth[up] == 64, n.Kind == api.Scroll && len(n.Kids) > 0:
			continue
		case n.Kind != api.Box && n.Kind != api.Grid && n.Kind != api.Stack && n.Kind != api.Scroll:
			continue
		}
		kids := s.Nodes[up].Kids
		s.Nodes[up].Kids = slices.Insert(kids, dice.Intn(len(kids)+1), len(s.Nodes))
		s.Nodes = append(s.Nodes, thrownNode(dice, modelKinds()[dice.Intn(10)]))
		depth = append(depth, depth[up]+1)
	}
	return s
}

// thrownSpecs are some of many sizes.
func thrownSpecs(seed int64, count int) []api.Spec {
	dice := rand.New(rand.NewSource(seed))
	var l []api.Spec
	for i := range count {
		l = append(l, thrownSpec(dice, 1+i%23))
	}
	return l
}

// sampleT is the spec T of the chapter's examples.
func sampleT() api.Spec {
	return api.Spec{Nodes: []api.Node{
		{Kind: api.Box, Name: "a", Kids: []int{2, 1}},
		{Kind: api.Label, Name: "b"},
		{Kind: api.Box, Name: "b", Kids: []int{3}},
		{Kind: api.Label, Name: "c"},
	}}
}

// alone is a spec of one node.
func alone(kind uint8, name string) api.Spec {
	return api.Spec{Nodes: []api.Node{{Kind: kind, Name: name}}}
}

// chain is a spec of boxes, each in the one ahead of it.
func chain(deep int) api.Spec {
	var s api.Spec
	for i := range deep {
		n := api.Node{Kind: api.Box, Name: strconv.Itoa(i)}
		if i < deep-1 {
			n.Kids = []int{i + 1}
		}
		s.Nodes = append(s.Nodes, n)
	}
	return s
}

// flat is a spec of a box that holds all others.
func flat(nodes int) api.Spec {
	s := api.Spec{Nodes: make([]api.Node, nodes)}
	s.Nodes[0].Kind = api.Box
	for i := 1; i < nodes; i++ {
		s.Nodes[i].Kind = api.Gap
		s.Nodes[0].Kids = append(s.Nodes[0].Kids, i)
	}
	return s
}

// wrong are specs that may not be, for calls that ask for a spec ahead of all.
func wrong() []api.Spec {
	return []api.Spec{
		{}, {Nodes: []api.Node{}}, {Nodes: []api.Node{{}}}, flat(1025), chain(65),
		{Nodes: []api.Node{{Kind: api.Box}, {Kind: api.Gap}}},
		{Nodes: []api.Node{{Kind: api.Box, Kids: []int{0}}}},
		{Nodes: []api.Node{{Kind: api.Box, Kids: []int{1}}, {Kind: api.Box, Kids: []int{0}}}},
		{Nodes: []api.Node{{Kind: api.Box, Kids: []int{1 << 40}}}},
	}
}

// holdSpec holds an answer against the model's.
func holdSpec(t *testing.T, what string, got api.Spec, e api.Errno, want api.Spec, wantE api.Errno) {
	t.Helper()
	if e != wantE || !alike(got, want) {
		t.Fatalf("%s: %v, %d, want %v, %d", what, got, int(e), want, int(wantE))
	}
	if e == api.OK && Check(got) != api.OK {
		t.Fatalf("%s: what is answered may not be: %v", what, got)
	}
}
