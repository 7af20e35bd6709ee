package damage

import (
	"math/rand"
	"slices"
	"testing"

	"casement/api"
)

// given is what all calls of the package are handed.
type given struct {
	a, b     []api.Stroke
	old, now api.Screen
	rects    []api.Rect
}

// answers are what all calls answer on it.
type answers struct {
	damage, changed []api.Rect
	mended          api.Screen
	nodes           []int
	errors          [4]api.Errno
}

func thrownGiven(r *rand.Rand) given {
	var g given
	g.a = thrownList(r, r.Intn(9))
	g.b = thrownNext(r, g.a)
	s := size(1+r.Intn(6), 1+r.Intn(4))
	g.old, g.now = thrownScreen(r, s), thrownScreen(r, s)
	for range r.Intn(4) {
		g.rects = append(g.rects, thrownRect(r))
	}
	return g
}

func (g given) ask() answers {
	var a answers
	a.damage, a.errors[0] = Of(g.a, g.b)
	a.mended, a.errors[1] = Mend(g.old, g.b, g.rects)
	a.changed, a.errors[2] = Changed(g.old, g.now)
	a.nodes, a.errors[3] = Nodes(g.a, g.b)
	return a
}

// roomy is a list with spare room, in which something stands.
func roomy[T any](l []T, spare T) []T {
	all := append(slices.Clone(l), spare, spare, spare)
	return all[:len(l)]
}

// roomy is the same, with spare room behind each list.
func (g given) roomy() given {
	return given{
		roomy(g.a, fill(1, 2, 3, 4)), roomy(g.b, fill(5, 6, 7, 8)),
		api.Screen{Size: g.old.Size, Cells: roomy(g.old.Cells, bare)}, api.Screen{Size: g.now.Size, Cells: roomy(g.now.Cells, bare)},
		roomy(g.rects, rect(1, 2, 3, 4)),
	}
}

// whole has all that lies in the lists' memory.
func (g given) whole() given {
	return given{
		slices.Clone(g.a[:cap(g.a)]), slices.Clone(g.b[:cap(g.b)]),
		api.Screen{Size: g.old.Size, Cells: slices.Clone(g.old.Cells[:cap(g.old.Cells)])}, api.Screen{Size: g.now.Size, Cells: slices.Clone(g.now.Cells[:cap(g.now.Cells)])},
		slices.Clone(g.rects[:cap(g.rects)]),
	}
}

func (g given) equals(o given) bool {
	return slices.Equal(g.a, o.a) && slices.Equal(g.b, o.b) && alike(g.old, o.old) && alike(g.now, o.now) && slices.Equal(g.rects, o.rects)
}

func (g given) wipe() {
	clear(g.a[:cap(g.a)])
	clear(g.b[:cap(g.b)])
	clear(g.old.Cells[:cap(g.old.Cells)])
	clear(g.now.Cells[:cap(g.now.Cells)])
	clear(g.rects[:cap(g.rects)])
}

func (a answers) kept() answers {
	a.damage, a.changed, a.nodes, a.mended.Cells = slices.Clone(a.damage), slices.Clone(a.changed), slices.Clone(a.nodes), slices.Clone(a.mended.Cells)
	return a
}

func (a answers) equals(o answers) bool {
	return slices.Equal(a.damage, o.damage) && slices.Equal(a.changed, o.changed) && alike(a.mended, o.mended) && slices.Equal(a.nodes, o.nodes) && a.errors == o.errors
}

func (a answers) wipe() {
	clear(a.damage[:cap(a.damage)])
	clear(a.changed[:cap(a.changed)])
	clear(a.mended.Cells[:cap(a.mended.Cells)])
	clear(a.nodes[:cap(a.nodes)])
}

// P17.5: what is handed in stays, its spare room too, and is not kept: written over it changes no answer, neither those that were told nor later ones.
func TestHandedInStays(t *testing.T) {
	r := rand.New(rand.NewSource(177))
	for range 1500 {
		g := thrownGiven(r)
		want := g.ask().kept()
		handed := g.roomy()
		before := handed.whole()
		got := handed.ask()
		if !got.equals(want) || got.errors != ([4]api.Errno{}) {
			t.Fatalf("%v: %v, then %v", g, want, got)
		}
		if !handed.whole().equals(before) {
			t.Fatalf("%v: changed to %v", before, handed.whole())
		}
		handed.wipe()
		if again := g.ask(); !got.equals(want) || !again.equals(want) {
			t.Fatalf("%v: %v, then %v and %v", g, want, got, again)
		}
	}
}

// P17.5: what is answered is the caller's: written over with its spare room it changes neither what was handed in nor another answer.
func TestAnsweredIsNew(t *testing.T) {
	r := rand.New(rand.NewSource(178))
	for range 1500 {
		g := thrownGiven(r).roomy()
		before := g.whole()
		first, second := g.ask(), g.ask()
		want := first.kept()
		first.wipe()
		if third := g.ask(); !second.equals(want) || !third.equals(want) {
			t.Fatalf("%v: %v, then %v and %v", g, want, second, third)
		}
		if !g.whole().equals(before) {
			t.Fatalf("%v: what was handed in hangs on what was answered", before)
		}
	}
}

// P17.5: also where an answer says what was handed in: a screen that nothing mends, a region that is all of one stroke.
func TestAnsweredIsNewOfOne(t *testing.T) {
	s, l, q := dyed(size(2, 1)), of(fill(0, 0, 2, 1)), rects(rect(0, 0, 2, 1))
	same, _ := Mend(s, l, nil)
	same.Cells[0] = bare
	same, _ = Mend(s, l, rects(rect(5, 5, 1, 1)))
	same.Cells[1] = bare
	if !alike(s, dyed(size(2, 1))) {
		t.Errorf("Mend hands on its argument: %v", s)
	}
	whole, _ := Mend(s, l, q)
	whole.Cells[0] = bare
	damage, _ := Of(l, nil)
	damage[0].At.X = 9
	if l[0].Rect != rect(0, 0, 2, 1) || q[0] != rect(0, 0, 2, 1) || !alike(s, dyed(size(2, 1))) {
		t.Errorf("%v, %v, %v", l, q, s)
	}
	both, _ := Mend(s, l, q)
	if both.Cells[0] == bare {
		t.Error("Mend answers the same memory again")
	}
}

// R2: calls made at the same time do not see one another.
func TestAtTheSameTime(t *testing.T) {
	r := rand.New(rand.NewSource(179))
	g := thrownGiven(r)
	g.a = thrownList(r, 60)
	g.b = thrownNext(r, g.a)
	want := g.ask()
	got := make(chan answers)
	for range 8 {
		go func() { got <- g.ask() }()
	}
	for range 8 {
		if one := <-got; !one.equals(want) {
			t.Errorf("%v, not %v", one, want)
		}
	}
}
