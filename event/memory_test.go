package event

import (
	"math/rand"
	"slices"
	"testing"

	"casement/api"
	"casement/tree"
)

// given is what all calls of the package are handed.
type given struct {
	s    api.Spec
	l    []api.Handler
	e    api.Event
	node int
	text string
}

// answers are what all calls answer on it.
type answers struct {
	way      []api.Visit
	told     []string
	stop, at int
	text     string
	e        api.Event
	errs     [6]api.Errno
}

func thrownGiven(r *rand.Rand) given {
	for {
		g := given{s: thrown(r, 4+r.Intn(12)), e: thrownEvent(r), text: spoilt(r, modelText(samples()[r.Intn(10)]))}
		g.l, g.node = thrownHandlers(r, g.s), r.Intn(len(g.s.Nodes))
		if g.e.Kind != api.EventKey {
			g.e = move()
		}
		if told, _ := modelSend(g.s, g.l, g.e, g.node); modelMay(g.e) && len(told) > 1 {
			return g
		}
	}
}

func (g given) ask() answers {
	var a answers
	a.way, a.errs[0] = Way(g.s, g.node)
	a.told, a.stop, a.errs[1] = Send(g.s, g.l, g.e, g.node)
	a.errs[2], a.errs[3] = Check(g.e), Handlers(g.s, g.l)
	a.text, a.errs[4] = Text(g.e)
	a.e, a.at, a.errs[5] = Parse(g.text)
	return a
}

func (a answers) copied() answers {
	a.way, a.told = slices.Clone(a.way), slices.Clone(a.told)
	return a
}

func same(a, b answers) bool {
	return slices.Equal(a.way, b.way) && slices.Equal(a.told, b.told) && a.stop == b.stop && a.at == b.at && a.text == b.text && a.e == b.e && a.errs == b.errs
}

// roomy is a list with spare room, in which something stands.
func roomy[T any](l []T, spare T) []T {
	all := append(slices.Clone(l), spare, spare, spare)
	return all[:len(l)]
}

func roomySpec(s api.Spec) api.Spec {
	nodes := slices.Clone(s.Nodes)
	for i := range nodes {
		nodes[i].Kids, nodes[i].Wraps = roomy(nodes[i].Kids, 500), roomy(nodes[i].Wraps, api.Wrap{Kind: 50})
	}
	return api.Spec{Nodes: roomy(nodes, api.Node{Name: "spare"})}
}

// wholeSpec is a spec with all the spare room of its lists, as a copy.
func wholeSpec(s api.Spec) api.Spec {
	nodes := slices.Clone(s.Nodes[:cap(s.Nodes)])
	for i, n := range nodes {
		nodes[i].Kids, nodes[i].Wraps = slices.Clone(n.Kids[:cap(n.Kids)]), slices.Clone(n.Wraps[:cap(n.Wraps)])
	}
	return api.Spec{Nodes: nodes}
}

func overwrite[T any](l []T, with T) {
	for i := range l[:cap(l)] {
		l[:cap(l)][i] = with
	}
}

func spoil(s api.Spec, l []api.Handler) {
	for _, n := range s.Nodes {
		overwrite(n.Kids, -7)
		overwrite(n.Wraps, api.Wrap{Kind: 77})
	}
	overwrite(s.Nodes, api.Node{Kind: 99, Kids: []int{-5}})
	overwrite(l, api.Handler{Kind: 99, Tell: "spoilt"})
}

// P19.5: what is handed in stays, its spare room too, and is not kept: calls of a copy, when the first lists were written over since, answer the same.
func TestHandedInStays(t *testing.T) {
	r := rand.New(rand.NewSource(194))
	for range 2000 {
		plain := thrownGiven(r)
		g := plain
		g.s, g.l = roomySpec(g.s), roomy(g.l, api.Handler{Node: 0, Kind: api.EventMove, Phase: 1, Tell: "spare"})
		s, l := wholeSpec(g.s), slices.Clone(g.l[:cap(g.l)])
		got := g.ask()
		if !tree.Same(wholeSpec(g.s), s) || !slices.Equal(g.l[:cap(g.l)], l) {
			t.Fatalf("%v: changed to %v, %v", plain, g.s, g.l)
		}
		kept := got.copied()
		spoil(g.s, g.l)
		if again := plain.ask(); !same(got, kept) || !same(got, again) || len(got.told) < 2 {
			t.Fatalf("%v: %v, then %v, and then %v", plain, kept, got, again)
		}
	}
}

// P19.5: what is answered is the caller's: written over with its spare room, it changes neither what was handed in nor another answer.
func TestAnsweredIsNew(t *testing.T) {
	r := rand.New(rand.NewSource(195))
	for range 2000 {
		g := thrownGiven(r)
		g.s, g.l = roomySpec(g.s), roomy(g.l, api.Handler{Tell: "spare"})
		s, l := wholeSpec(g.s), slices.Clone(g.l[:cap(g.l)])
		want, got := g.ask(), g.ask()
		kept := want.copied()
		overwrite(got.way, api.Visit{Node: -99, Phase: 99})
		overwrite(got.told, "spoilt")
		if !tree.Same(wholeSpec(g.s), s) || !slices.Equal(g.l[:cap(g.l)], l) {
			t.Fatalf("%v: what was handed in hangs on what was answered", g)
		}
		if again := g.ask(); !same(want, kept) || !same(again, kept) {
			t.Fatalf("%v: not %v any more", g, kept)
		}
	}
}

// R2: calls made at the same time do not see one another.
func TestAtTheSameTime(t *testing.T) {
	g := thrownGiven(rand.New(rand.NewSource(196)))
	want := g.ask()
	got := make(chan answers)
	for range 8 {
		go func() { got <- g.ask() }()
	}
	for range 8 {
		if one := <-got; !same(one, want) {
			t.Errorf("%v, not %v", one, want)
		}
	}
}
