package layout

import (
	"math/rand"
	"slices"
	"testing"

	"casement/api"
	"casement/tree"
)

// answers are what all calls of the package answer on one input.
type answers struct {
	needs         []api.Size
	places        []api.Place
	along, across []api.Bound
	count, fits   int
	of            api.Place
}

func asAll(s api.Spec, r api.Rect, l []api.Place) answers {
	var a answers
	a.needs, _ = Need(s)
	a.places, _ = Places(s, r)
	a.along, a.count, _ = Bounds(s, 0, true)
	a.across, _, _ = Bounds(s, 0, false)
	a.fits, _ = Fits(s, l)
	a.of, _ = Of(s, r, len(s.Nodes)-1)
	return a
}

func same(a, b answers) bool {
	return slices.Equal(a.needs, b.needs) && slices.Equal(a.places, b.places) && slices.Equal(a.along, b.along) && slices.Equal(a.across, b.across) && a.count == b.count && a.fits == b.fits && a.of == b.of
}

func copied(a answers) answers {
	a.needs, a.places, a.along, a.across = slices.Clone(a.needs), slices.Clone(a.places), slices.Clone(a.along), slices.Clone(a.across)
	return a
}

// roomy is a list with spare room, in which something stands.
func roomy[T any](l []T, spare T) []T {
	all := append(slices.Clone(l), spare, spare, spare)
	return all[:len(l)]
}

func roomySpec(s api.Spec) api.Spec {
	nodes := slices.Clone(s.Nodes)
	for i := range nodes {
		nodes[i].Kids, nodes[i].Wraps = roomy(nodes[i].Kids, 500), roomy(nodes[i].Wraps, api.Wrap{Kind: 50})
	}
	return api.Spec{Nodes: roomy(nodes, api.Node{Name: "spare"})}
}

// whole is a spec with all the spare room of its lists, as a copy.
func whole(s api.Spec) api.Spec {
	nodes := slices.Clone(s.Nodes[:cap(s.Nodes)])
	for i, n := range nodes {
		nodes[i].Kids, nodes[i].Wraps = slices.Clone(n.Kids[:cap(n.Kids)]), slices.Clone(n.Wraps[:cap(n.Wraps)])
	}
	return api.Spec{Nodes: nodes}
}

func overwrite[T any](l []T, with T) {
	for i := range l[:cap(l)] {
		l[:cap(l)][i] = with
	}
}

func spoil(s api.Spec) {
	for _, n := range s.Nodes {
		overwrite(n.Kids, -7)
		overwrite(n.Wraps, api.Wrap{Kind: 77})
	}
	overwrite(s.Nodes, api.Node{Kind: 99, Kids: []int{-5}})
}

// rows are specs whose root is a Box, so that all calls have something to tell, in a rectangle about what it needs.
func rows(r *rand.Rand) (api.Spec, api.Rect, []api.Place) {
	s := thrown(r, 2+r.Intn(8), 6)
	s.Nodes[0].Kind, s.Nodes[0].Hidden, s.Nodes[0].Wraps = api.Box, false, []api.Wrap{pad(1)}
	box := rect(r.Intn(9), r.Intn(9), r.Intn(60), r.Intn(60))
	l, _ := Places(s, rect(0, 0, 500, 500))
	return s, box, l
}

// P12.5: what is handed in stays, its spare room too, and is not kept: calls of a copy, when the first lists were changed since, answer the same.
func TestHandedInStays(t *testing.T) {
	r := rand.New(rand.NewSource(124))
	for range 500 {
		plain, box, places := rows(r)
		s, l := roomySpec(plain), roomy(places, api.Place{Node: 77})
		allSpec, allPlaces := whole(s), slices.Clone(l[:cap(l)])
		first := asAll(s, box, l)
		if !tree.Same(whole(s), allSpec) || !slices.Equal(l[:cap(l)], allPlaces) {
			t.Fatalf("%v: changed to %v, %v", plain, s, l)
		}
		before, again := copied(first), asAll(roomySpec(plain), box, slices.Clone(places))
		spoil(s)
		overwrite(l, api.Place{Node: -9})
		if !same(first, before) || !same(first, again) {
			t.Fatalf("%v: %v, then %v, and then %v", plain, before, first, again)
		}
	}
}

// P12.5: what is answered is the caller's: each list of it, written over with its spare room, changes neither what was handed in nor another answer.
func TestAnsweredIsNew(t *testing.T) {
	r := rand.New(rand.NewSource(125))
	for range 500 {
		s, box, l := rows(r)
		s = roomySpec(s)
		allSpec, allPlaces := whole(s), slices.Clone(l)
		want, got := asAll(s, box, l), asAll(s, box, l)
		keep := copied(want)
		overwrite(got.needs, api.Size{W: -99})
		overwrite(got.places, api.Place{Node: -99})
		overwrite(got.along, api.Bound{A: -99})
		overwrite(got.across, api.Bound{A: -99})
		if !tree.Same(whole(s), allSpec) || !slices.Equal(l, allPlaces) {
			t.Fatalf("%v: what was handed in hangs on what was answered", allSpec)
		}
		if !same(want, keep) || !same(keep, asAll(s, box, l)) {
			t.Fatalf("%v: not %v any more", allSpec, keep)
		}
	}
}

// R2: calls made at the same time do not see one another.
func TestAtTheSameTime(t *testing.T) {
	s, box, l := rows(rand.New(rand.NewSource(126)))
	want := asAll(s, box, l)
	got := make(chan answers)
	for range 8 {
		go func() { got <- asAll(s, box, l) }()
	}
	for range 8 {
		if one := <-got; !same(one, want) {
			t.Errorf("%v, not %v", one, want)
		}
	}
}
