package grid

import (
	"math/rand"
	"slices"
	"testing"

	"casement/api"
)

// answers are what all calls of the package answer on one input.
type answers struct {
	cells           []api.Point
	widths, heights []int
	rects           []api.Rect
	need            api.Size
}

func asAll(spans, least []int, l []api.Size) answers {
	var a answers
	a.cells, _ = Cells(spans, 3)
	a.widths, _ = Widths(spans, least, 3, 1)
	a.heights, _ = Heights(spans, least, 3)
	a.rects, _ = Rects(spans, l, 3, 1, rect(2, 3, 40, 50))
	a.need, _ = Need(spans, l, 3, 1)
	return a
}

func same(a, b answers) bool {
	return slices.Equal(a.cells, b.cells) && slices.Equal(a.widths, b.widths) && slices.Equal(a.heights, b.heights) && slices.Equal(a.rects, b.rects) && a.need == b.need
}

// roomy is a list with spare room, in which something stands.
func roomy[T any](l []T, spare T) []T {
	all := append(slices.Clone(l), spare, spare, spare)
	return all[:len(l)]
}

func whole[T any](l []T) []T { return slices.Clone(l[:cap(l)]) }

func overwrite[T any](l []T, with T) {
	for i := range l[:cap(l)] {
		l[:cap(l)][i] = with
	}
}

// P11.6: what is handed in stays, its spare room too, and is not kept: calls of a copy, when the first lists were changed since, answer the same.
func TestHandedInStays(t *testing.T) {
	r := rand.New(rand.NewSource(113))
	for range 1000 {
		spans, l := thrown(r, 1+r.Intn(9), 4, 9)
		least, _ := split(l)
		spans, least, l = roomy(spans, 2), roomy(least, 7), roomy(l, api.Size{W: 5, H: 6})
		wholeSpans, wholeLeast, wholeSizes := whole(spans), whole(least), whole(l)
		first := asAll(spans, least, l)
		if !slices.Equal(whole(spans), wholeSpans) || !slices.Equal(whole(least), wholeLeast) || !slices.Equal(whole(l), wholeSizes) {
			t.Fatalf("%v, %v, %v: changed to %v, %v, %v", wholeSpans, wholeLeast, wholeSizes, whole(spans), whole(least), whole(l))
		}
		n := len(spans)
		before := answers{slices.Clone(first.cells), slices.Clone(first.widths), slices.Clone(first.heights), slices.Clone(first.rects), first.need}
		overwrite(spans, 1)
		overwrite(least, 0)
		overwrite(l, api.Size{})
		if !same(first, before) {
			t.Fatalf("%v: %v, when what was handed in was written over %v", wholeSpans, before, first)
		}
		if again := asAll(wholeSpans[:n], wholeLeast[:n], wholeSizes[:n]); !same(first, again) {
			t.Fatalf("%v: %v, and then %v", wholeSpans, first, again)
		}
	}
}

// P11.6: what is answered is the caller's: each list of it, written over with its spare room, changes neither what was handed in nor another answer.
func TestAnsweredIsNew(t *testing.T) {
	r := rand.New(rand.NewSource(114))
	for range 1000 {
		spans, l := thrown(r, 1+r.Intn(9), 4, 9)
		least, _ := split(l)
		beforeSpans, beforeLeast, beforeSizes := whole(spans), whole(least), whole(l)
		want, got := asAll(spans, least, l), asAll(spans, least, l)
		overwrite(got.cells, api.Point{X: -99})
		overwrite(got.widths, -99)
		overwrite(got.heights, -99)
		overwrite(got.rects, rect(-99, -99, -99, -99))
		if !slices.Equal(whole(spans), beforeSpans) || !slices.Equal(whole(least), beforeLeast) || !slices.Equal(whole(l), beforeSizes) {
			t.Fatalf("%v: what was handed in hangs on what was answered", beforeSpans)
		}
		if !same(want, asAll(spans, least, l)) {
			t.Fatalf("%v: not %v any more", beforeSpans, want)
		}
	}
}

// R2: calls made at the same time do not see one another.
func TestAtTheSameTime(t *testing.T) {
	spans, l := thrown(rand.New(rand.NewSource(115)), 200, 4, 9)
	least, _ := split(l)
	want := asAll(spans, least, l)
	got := make(chan answers)
	for range 8 {
		go func() { got <- asAll(spans, least, l) }()
	}
	for range 8 {
		if one := <-got; !same(one, want) {
			t.Errorf("%v, not %v", one, want)
		}
	}
}
