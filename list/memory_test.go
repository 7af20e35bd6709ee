package list

import (
	"math/rand"
	"slices"
	"testing"

	"casement/api"
)

// answers are what all calls of the package answer on one input.
type answers struct {
	lists [][]api.Stroke
	rects [][]api.Rect
	same  bool
	e     api.Errno
}

func asAll(l, other []api.Stroke, r []api.Rect) answers {
	a := answers{same: Same(l, other), e: Check(l)}
	flat, at, _ := Flat(l)
	bound, _ := Bound(l)
	within, _ := Within(l, r)
	norm, _ := Norm(l)
	join, _ := Join(l, other)
	moved, _ := Moved(l, point(3, -2))
	none, _ := Moved(l, point(0, 0))
	a.lists = [][]api.Stroke{flat, within, norm, join, moved, none}
	a.rects = [][]api.Rect{at, bound}
	return a
}

func (a answers) copied() answers {
	b := answers{same: a.same, e: a.e}
	for _, l := range a.lists {
		b.lists = append(b.lists, slices.Clone(l))
	}
	for _, l := range a.rects {
		b.rects = append(b.rects, slices.Clone(l))
	}
	return b
}

func alike(a, b answers) bool {
	return a.same == b.same && a.e == b.e && slices.EqualFunc(a.lists, b.lists, slices.Equal) && slices.EqualFunc(a.rects, b.rects, slices.Equal)
}

// roomy is a list with spare room, in which something stands.
func roomy[T any](l []T, spare T) []T {
	all := append(slices.Clone(l), spare, spare, spare)
	return all[:len(l)]
}

func whole[T any](l []T) []T { return slices.Clone(l[:cap(l)]) }

func overwrite[T any](l []T, with T) {
	for i := range l[:cap(l)] {
		l[:cap(l)][i] = with
	}
}

// P13.7: what is handed in stays, its spare room too, and is not kept: calls of a copy, when the first lists were written over since, answer the same.
func TestHandedInStays(t *testing.T) {
	r := rand.New(rand.NewSource(135))
	for range 1000 {
		l, other, q := roomy(thrown(r, r.Intn(12)), write(1, 1, 2, 2, "spare")), roomy(thrown(r, r.Intn(5)), fill(0, 0, 9, 9)), roomy(thrownRects(r), rect(1, 1, 1, 1))
		wholeL, wholeOther, wholeQ := whole(l), whole(other), whole(q)
		got := asAll(l, other, q)
		if !slices.Equal(whole(l), wholeL) || !slices.Equal(whole(other), wholeOther) || !slices.Equal(whole(q), wholeQ) {
			t.Fatalf("%v, %v, %v: changed to %v, %v, %v", wholeL, wholeOther, wholeQ, whole(l), whole(other), whole(q))
		}
		before := got.copied()
		n, m, k := len(l), len(other), len(q)
		overwrite(l, frame(7, 7, 7, 7))
		overwrite(other, frame(7, 7, 7, 7))
		overwrite(q, rect(7, 7, 7, 7))
		if !alike(got, before) {
			t.Fatalf("%v: %v, when what was handed in was written over %v", wholeL, before, got)
		}
		if again := asAll(wholeL[:n], wholeOther[:m], wholeQ[:k]); !alike(got, again) {
			t.Fatalf("%v: %v, and then %v", wholeL, got, again)
		}
	}
}

// P13.7: what is answered is the caller's: each list of it, written over with its spare room, changes neither what was handed in nor another answer.
func TestAnsweredIsNew(t *testing.T) {
	r := rand.New(rand.NewSource(136))
	for range 1000 {
		l, other, q := roomy(thrown(r, r.Intn(12)), open()), roomy(thrown(r, r.Intn(3)), open()), roomy(thrownRects(r), rect(1, 1, 1, 1))
		wholeL, wholeOther, wholeQ := whole(l), whole(other), whole(q)
		want := asAll(l, other, q).copied()
		for i := range want.lists {
			got := asAll(l, other, q)
			overwrite(got.lists[i], frame(7, 7, 7, 7))
			got.lists[i] = want.lists[i]
			if !alike(got, want) {
				t.Fatalf("%v: the answer %d shares memory with another one", wholeL, i)
			}
		}
		for i := range want.rects {
			got := asAll(l, other, q)
			overwrite(got.rects[i], rect(7, 7, 7, 7))
			got.rects[i] = want.rects[i]
			if !alike(got, want) {
				t.Fatalf("%v: the rectangles %d share memory with another answer", wholeL, i)
			}
		}
		if !slices.Equal(whole(l), wholeL) || !slices.Equal(whole(other), wholeOther) || !slices.Equal(whole(q), wholeQ) {
			t.Fatalf("%v: what was handed in hangs on what was answered", wholeL)
		}
	}
}

// P13.7: of a list joined to itself, and of a region of one rectangle, too.
func TestAnsweredIsNewOfOne(t *testing.T) {
	l, q := of(fill(0, 0, 9, 9)), rects(rect(0, 0, 1, 1))
	join, _ := Join(l, l)
	join[0].Node = 5
	alone, _ := Join(l, nil)
	alone[0].Node = 5
	behind, _ := Join(nil, l)
	behind[0].Node = 5
	bound, _ := Bound(l)
	bound[0].At.X = 5
	cut, _ := Within(l, q)
	cut[0].Rect.At.X, cut[1].Node = 5, 5
	if l[0] != fill(0, 0, 9, 9) || q[0] != rect(0, 0, 1, 1) || join[1].Node != 0 {
		t.Errorf("%v, %v, %v", l, q, join)
	}
}

// R2: calls made at the same time do not see one another.
func TestAtTheSameTime(t *testing.T) {
	r := rand.New(rand.NewSource(137))
	l, other, q := thrown(r, 40), thrown(r, 9), thrownRects(r)
	want := asAll(l, other, q)
	got := make(chan answers)
	for range 8 {
		go func() { got <- asAll(l, other, q) }()
	}
	for range 8 {
		if one := <-got; !alike(one, want) {
			t.Errorf("%v, not %v", one, want)
		}
	}
}
