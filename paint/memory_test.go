package paint

import (
	"math/rand"
	"slices"
	"testing"

	"casement/api"
	"casement/tree"
)

// input is what all calls of the package are handed.
type input struct {
	s      api.Spec
	r      api.Rect
	theme  []api.Rule
	states []uint8
	node   int
}

// answers are what all calls of the package answer on one input.
type answers struct {
	drawn, one []api.Stroke
	looks      []api.Look
	order      []int
}

func (in input) asked() answers {
	var a answers
	a.drawn, _ = Draw(in.s, in.r, in.theme, in.states)
	a.one, _ = Part(in.s, in.r, in.theme, in.states, in.node)
	a.looks, _ = Looks(in.s, in.theme, in.states)
	a.order, _ = Order(in.s, in.r)
	return a
}

func same(a, b answers) bool {
	return slices.Equal(a.drawn, b.drawn) && slices.Equal(a.one, b.one) && slices.Equal(a.looks, b.looks) && slices.Equal(a.order, b.order)
}

func (a answers) copied() answers {
	return answers{slices.Clone(a.drawn), slices.Clone(a.one), slices.Clone(a.looks), slices.Clone(a.order)}
}

// roomy is a list with spare room, in which something stands.
func roomy[T any](l []T, spare T) []T {
	all := append(slices.Clone(l), spare, spare, spare)
	return all[:len(l)]
}

func (in input) roomy() input {
	nodes := slices.Clone(in.s.Nodes)
	for i := range nodes {
		nodes[i].Kids, nodes[i].Wraps = roomy(nodes[i].Kids, 500), roomy(nodes[i].Wraps, api.Wrap{Kind: 50})
	}
	in.s.Nodes = roomy(nodes, api.Node{Name: "spare"})
	in.theme, in.states = roomy(in.theme, api.Rule{State: 77}), roomy(in.states, 99)
	return in
}

// whole is an input with all the spare room of its lists, as a copy.
func (in input) whole() input {
	nodes := slices.Clone(in.s.Nodes[:cap(in.s.Nodes)])
	for i, n := range nodes {
		nodes[i].Kids, nodes[i].Wraps = slices.Clone(n.Kids[:cap(n.Kids)]), slices.Clone(n.Wraps[:cap(n.Wraps)])
	}
	in.s.Nodes = nodes
	in.theme, in.states = slices.Clone(in.theme[:cap(in.theme)]), slices.Clone(in.states[:cap(in.states)])
	return in
}

func sameInput(a, b input) bool {
	return tree.Same(a.s, b.s) && slices.Equal(a.theme, b.theme) && slices.Equal(a.states, b.states)
}

func overwrite[T any](l []T, with T) {
	for i := range l[:cap(l)] {
		l[:cap(l)][i] = with
	}
}

func (in input) spoil() {
	for _, n := range in.s.Nodes {
		overwrite(n.Kids, -7)
		overwrite(n.Wraps, api.Wrap{Kind: 77})
	}
	overwrite(in.s.Nodes, api.Node{Kind: 99, Kids: []int{-5}})
	overwrite(in.theme, api.Rule{Kind: 77})
	overwrite(in.states, 255)
}

// thrownInput is one by chance, whose last node draws something.
func thrownInput(r *rand.Rand) input {
	s := thrown(r, 1+r.Intn(9))
	root := &s.Nodes[0]
	root.Kind, root.Hidden, root.Wraps, root.Min = api.Stack, false, []api.Wrap{pad(1)}, api.Size{}
	node := len(s.Nodes)
	root.Kids = append(root.Kids, node)
	s.Nodes = append(s.Nodes, api.Node{Kind: api.Button, Text: "ok"})
	return input{s: s, r: rect(0, 0, 8+r.Intn(50), 8+r.Intn(40)), theme: thrownTheme(r, false), states: thrownStates(r, len(s.Nodes)), node: node}
}

// P14.4: what is handed in stays, its spare room too, and is not kept: calls of a copy, when the first lists were written over since, answer the same.
func TestHandedInStays(t *testing.T) {
	r := rand.New(rand.NewSource(143))
	for range 500 {
		plain := thrownInput(r)
		in := plain.roomy()
		before := in.whole()
		got := in.asked()
		if !sameInput(in.whole(), before) {
			t.Fatalf("%v: changed to %v", before, in.whole())
		}
		kept := got.copied()
		in.spoil()
		if again := plain.asked(); !same(got, kept) || !same(got, again) || len(got.drawn) == 0 || len(got.order) == 0 {
			t.Fatalf("%v: %v, then %v, and then %v", plain, kept, got, again)
		}
	}
}

// P14.4: what is answered is the caller's: each list of it, written over with its spare room, changes neither what was handed in nor another answer.
func TestAnsweredIsNew(t *testing.T) {
	r := rand.New(rand.NewSource(144))
	for range 500 {
		in := thrownInput(r).roomy()
		before := in.whole()
		want, got := in.asked(), in.asked()
		kept := want.copied()
		overwrite(got.drawn, api.Stroke{Kind: 99})
		overwrite(got.looks, api.Look{Has: 99})
		overwrite(got.order, -99)
		if !slices.Equal(got.one, kept.one) {
			t.Fatalf("%v: Part shares memory with Draw", before)
		}
		overwrite(got.one, api.Stroke{Kind: 98})
		if !sameInput(in.whole(), before) {
			t.Fatalf("%v: what was handed in hangs on what was answered", before)
		}
		if again := in.asked(); !same(want, kept) || !same(again, kept) {
			t.Fatalf("%v: not %v any more", before, kept)
		}
	}
}

// R2: calls made at the same time do not see one another.
func TestAtTheSameTime(t *testing.T) {
	in := thrownInput(rand.New(rand.NewSource(145)))
	want := in.asked()
	got := make(chan answers)
	for range 8 {
		go func() { got <- in.asked() }()
	}
	for range 8 {
		if one := <-got; !same(one, want) {
			t.Errorf("%v, not %v", one, want)
		}
	}
}
