package focus

import (
	"math/rand"
	"slices"
	"testing"

	"casement/api"
	"casement/tree"
)

// given is what all calls of the package are handed.
type given struct {
	s, now api.Spec
	r      api.Rect
	node   int
	way    uint8
}

// told is what a call answers beside an error.
type told struct {
	node int
	is   bool
	e    api.Errno
}

// answers are what all calls answer on it.
type answers struct {
	order []int
	e     api.Errno
	steps [4]told
}

func thrownGiven(r *rand.Rand) given {
	for {
		g := given{s: thrown(r, 2+r.Intn(12)), r: rect(r.Intn(9), r.Intn(9), 9+r.Intn(30), 9+r.Intn(30)), way: uint8(r.Intn(4))}
		if order := modelOrder(g.s); len(order) > 1 {
			g.now, g.node = next(r, g.s), order[r.Intn(len(order))]
			return g
		}
	}
}

func (g given) ask() answers {
	var a answers
	a.order, a.e = Order(g.s, g.r)
	node, is, e := Next(g.s, g.r, g.node)
	a.steps[0] = told{node, is, e}
	node, is, e = Back(g.s, g.r, g.node)
	a.steps[1] = told{node, is, e}
	node, is, e = Toward(g.s, g.r, g.node, g.way)
	a.steps[2] = told{node, is, e}
	node, is, e = Keep(g.s, g.now, g.r, g.node)
	a.steps[3] = told{node, is, e}
	return a
}

func same(a, b answers) bool {
	return slices.Equal(a.order, b.order) && a.e == b.e && a.steps == b.steps
}

// roomy is a list with spare room, in which something stands.
func roomy[T any](l []T, spare T) []T {
	all := append(slices.Clone(l), spare, spare, spare)
	return all[:len(l)]
}

func roomySpec(s api.Spec) api.Spec {
	nodes := slices.Clone(s.Nodes)
	for i := range nodes {
		nodes[i].Kids, nodes[i].Wraps = roomy(nodes[i].Kids, 500), roomy(nodes[i].Wraps, api.Wrap{Kind: 50})
	}
	return api.Spec{Nodes: roomy(nodes, api.Node{Name: "spare"})}
}

// wholeSpec is a spec with all the spare room of its lists, as a copy.
func wholeSpec(s api.Spec) api.Spec {
	nodes := slices.Clone(s.Nodes[:cap(s.Nodes)])
	for i, n := range nodes {
		nodes[i].Kids, nodes[i].Wraps = slices.Clone(n.Kids[:cap(n.Kids)]), slices.Clone(n.Wraps[:cap(n.Wraps)])
	}
	return api.Spec{Nodes: nodes}
}

func overwrite[T any](l []T, with T) {
	for i := range l[:cap(l)] {
		l[:cap(l)][i] = with
	}
}

func spoil(s api.Spec) {
	for _, n := range s.Nodes {
		overwrite(n.Kids, -7)
		overwrite(n.Wraps, api.Wrap{Kind: 77})
	}
	overwrite(s.Nodes, api.Node{Kind: 99, Kids: []int{-5}})
}

// P18.5: what is handed in stays, its spare room too, and is not kept: calls of a copy, when the first lists were written over since, answer the same.
func TestHandedInStays(t *testing.T) {
	r := rand.New(rand.NewSource(184))
	for range 1000 {
		plain := thrownGiven(r)
		g := plain
		g.s, g.now = roomySpec(g.s), roomySpec(g.now)
		s, now := wholeSpec(g.s), wholeSpec(g.now)
		got := g.ask()
		if !tree.Same(wholeSpec(g.s), s) || !tree.Same(wholeSpec(g.now), now) {
			t.Fatalf("%v: changed to %v, %v", plain, g.s, g.now)
		}
		kept := answers{slices.Clone(got.order), got.e, got.steps}
		spoil(g.s)
		spoil(g.now)
		if again := plain.ask(); !same(got, kept) || !same(got, again) || len(got.order) < 2 {
			t.Fatalf("%v: %v, then %v, and then %v", plain, kept, got, again)
		}
	}
}

// P18.5: what is answered is the caller's: written over with its spare room, it changes neither what was handed in nor another answer.
func TestAnsweredIsNew(t *testing.T) {
	r := rand.New(rand.NewSource(185))
	for range 1000 {
		g := thrownGiven(r)
		g.s, g.now = roomySpec(g.s), roomySpec(g.now)
		s, now := wholeSpec(g.s), wholeSpec(g.now)
		want, got := g.ask(), g.ask()
		kept := answers{slices.Clone(want.order), want.e, want.steps}
		overwrite(got.order, -99)
		if !tree.Same(wholeSpec(g.s), s) || !tree.Same(wholeSpec(g.now), now) {
			t.Fatalf("%v: what was handed in hangs on what was answered", g)
		}
		if again := g.ask(); !same(want, kept) || !same(again, kept) {
			t.Fatalf("%v: not %v any more", g, kept)
		}
	}
}

// R2: calls made at the same time do not see one another.
func TestAtTheSameTime(t *testing.T) {
	g := thrownGiven(rand.New(rand.NewSource(186)))
	want := g.ask()
	got := make(chan answers)
	for range 8 {
		go func() { got <- g.ask() }()
	}
	for range 8 {
		if one := <-got; !same(one, want) {
			t.Errorf("%v, not %v", one, want)
		}
	}
}
