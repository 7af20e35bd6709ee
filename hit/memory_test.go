package hit

import (
	"math/rand"
	"slices"
	"testing"

	"casement/api"
	"casement/tree"
)

// given is what all calls of the package are handed.
type given struct {
	s        api.Spec
	r        api.Rect
	p        api.Point
	from, to int
}

// answers are what all calls answer on it.
type answers struct {
	top           int
	is            bool
	all, tops     []int
	left, entered []int
	e             [4]api.Errno
}

// thrownGiven is such that each list of the answers has something.
func thrownGiven(r *rand.Rand) given {
	for {
		g := given{s: thrown(r, 2+r.Intn(12)), r: rect(r.Intn(9), r.Intn(9), 3+r.Intn(9), 3+r.Intn(9))}
		g.p = at(g.r.At.X+r.Intn(g.r.Size.W), g.r.At.Y+r.Intn(g.r.Size.H))
		g.from, g.to = r.Intn(len(g.s.Nodes)), r.Intn(len(g.s.Nodes))
		all, _ := modelAll(g.s, g.r, g.p)
		left, entered, _ := modelCrossed(g.s, g.from, g.to)
		if len(all) > 0 && len(left) > 0 && len(entered) > 0 {
			return g
		}
	}
}

func (g given) ask() answers {
	var a answers
	a.top, a.is, a.e[0] = At(g.s, g.r, g.p)
	a.all, a.e[1] = All(g.s, g.r, g.p)
	a.tops, a.e[2] = Map(g.s, g.r)
	a.left, a.entered, a.e[3] = Crossed(g.s, g.from, g.to)
	return a
}

func (a answers) lists() [][]int { return [][]int{a.all, a.tops, a.left, a.entered} }

func (a answers) copied() answers {
	a.all, a.tops, a.left, a.entered = slices.Clone(a.all), slices.Clone(a.tops), slices.Clone(a.left), slices.Clone(a.entered)
	return a
}

func same(a, b answers) bool {
	return a.top == b.top && a.is == b.is && a.e == b.e && slices.EqualFunc(a.lists(), b.lists(), slices.Equal)
}

// roomy is a list with spare room, in which something stands.
func roomy[T any](l []T, spare T) []T {
	all := append(slices.Clone(l), spare, spare, spare)
	return all[:len(l)]
}

func roomySpec(s api.Spec) api.Spec {
	nodes := slices.Clone(s.Nodes)
	for i := range nodes {
		nodes[i].Kids, nodes[i].Wraps = roomy(nodes[i].Kids, 500), roomy(nodes[i].Wraps, api.Wrap{Kind: 50})
	}
	return api.Spec{Nodes: roomy(nodes, api.Node{Name: "spare"})}
}

// wholeSpec is a spec with all the spare room of its lists, as a copy.
func wholeSpec(s api.Spec) api.Spec {
	nodes := slices.Clone(s.Nodes[:cap(s.Nodes)])
	for i, n := range nodes {
		nodes[i].Kids, nodes[i].Wraps = slices.Clone(n.Kids[:cap(n.Kids)]), slices.Clone(n.Wraps[:cap(n.Wraps)])
	}
	return api.Spec{Nodes: nodes}
}

func overwrite[T any](l []T, with T) {
	for i := range l[:cap(l)] {
		l[:cap(l)][i] = with
	}
}

func spoil(s api.Spec) {
	for _, n := range s.Nodes {
		overwrite(n.Kids, -7)
		overwrite(n.Wraps, api.Wrap{Kind: 77})
	}
	overwrite(s.Nodes, api.Node{Kind: 99, Kids: []int{-5}})
}

// P20.4: what is handed in stays, its spare room too, and is not kept: calls of a copy, when the first lists were written over since, answer the same.
func TestHandedInStays(t *testing.T) {
	r := rand.New(rand.NewSource(203))
	for range 1000 {
		plain := thrownGiven(r)
		g := plain
		g.s = roomySpec(g.s)
		s := wholeSpec(g.s)
		got := g.ask()
		if !tree.Same(wholeSpec(g.s), s) {
			t.Fatalf("%v: changed to %v", plain, g.s)
		}
		kept := got.copied()
		spoil(g.s)
		if again := plain.ask(); !same(got, kept) || !same(got, again) {
			t.Fatalf("%v: %v, then %v, and then %v", plain, kept, got, again)
		}
	}
}

// P20.4: what is answered is the caller's: each list, written over with its spare room, changes neither what was handed in, nor another list, nor another answer.
func TestAnsweredIsNew(t *testing.T) {
	r := rand.New(rand.NewSource(204))
	for range 1000 {
		g := thrownGiven(r)
		g.s = roomySpec(g.s)
		s := wholeSpec(g.s)
		want := g.ask()
		kept := want.copied()
		for i := range kept.lists() {
			got := g.ask()
			overwrite(got.lists()[i], -99)
			for j, l := range got.lists() {
				if i != j && !slices.Equal(l, kept.lists()[j]) {
					t.Fatalf("%v: the list %d hangs on the list %d", g, j, i)
				}
			}
		}
		if !tree.Same(wholeSpec(g.s), s) {
			t.Fatalf("%v: what was handed in hangs on what was answered", g)
		}
		if again := g.ask(); !same(want, kept) || !same(again, kept) {
			t.Fatalf("%v: not %v any more", g, kept)
		}
	}
}

// R2: calls made at the same time do not see one another.
func TestAtTheSameTime(t *testing.T) {
	g := thrownGiven(rand.New(rand.NewSource(205)))
	want := g.ask()
	got := make(chan answers)
	for range 8 {
		go func() { got <- g.ask() }()
	}
	for range 8 {
		if one := <-got; !same(one, want) {
			t.Errorf("%v, not %v", one, want)
		}
	}
}
