package list

import (
	"math/rand"
	"slices"
	"testing"

	"casement/api"
	"casement/region"
)

// dealtRect is a rectangle of the board by chance, empty ones among them.
func dealtRect(r *rand.Rand) api.Rect {
	x, y := boardFrom+r.Intn(boardTo-boardFrom-8), boardFrom+r.Intn(boardTo-boardFrom-8)
	return rect(x, y, r.Intn(9), r.Intn(9))
}

// dealt is a stroke by chance that draws.
func dealt(r *rand.Rand) api.Stroke {
	alphas := []uint8{0, 1, 254, 255, 255, 255}
	texts := []string{"", "a", "ab\ncd", "\xff", "x"}
	s := api.Stroke{Kind: 1 + uint8(r.Intn(3)), Rect: dealtRect(r), Colour: inked(alphas[r.Intn(6)]), Node: r.Intn(4)}
	if s.Kind == api.Write {
		s.Text, s.Back = texts[r.Intn(5)], inked(alphas[r.Intn(6)])
	}
	return s
}

// thrown is a drawing list by chance.
func thrown(r *rand.Rand, n int) []api.Stroke {
	var l []api.Stroke
	depth := 0
	for range n {
		switch {
		case r.Intn(4) == 0:
			l = append(l, api.Stroke{Kind: api.Clip, Rect: dealtRect(r), Node: r.Intn(3)})
			depth++
		case r.Intn(4) == 0 && depth > 0:
			l = append(l, api.Stroke{Kind: api.Open, Node: r.Intn(3)})
			depth--
		default:
			l = append(l, dealt(r))
		}
	}
	return append(l, slices.Repeat(of(open()), depth)...)
}

func thrownRects(r *rand.Rand) []api.Rect {
	var all []api.Rect
	for range r.Intn(4) {
		all = append(all, dealtRect(r))
	}
	return all
}

// P13.1: lists by chance, changed by chance, so that several things may be wrong.
func TestThrownCheck(t *testing.T) {
	r := rand.New(rand.NewSource(131))
	told := map[api.Errno]int{}
	for range 20000 {
		l := thrown(r, r.Intn(6))
		for range r.Intn(3) {
			if len(l) == 0 {
				break
			}
			at := r.Intn(len(l))
			s := &l[at]
			switch r.Intn(8) {
			case 0:
				s.Kind = uint8(r.Intn(7))
			case 1:
				s.Node = []int{-1, 0, 1 << 20, 1<<20 + 1}[r.Intn(4)]
			case 2:
				s.Text = []string{"", "x"}[r.Intn(2)]
			case 3:
				s.Back = inked(uint8(r.Intn(2)))
			case 4:
				s.Colour = api.Colour{}
			case 5:
				s.Rect.At.X = []int{-side - 1, -side, side, side - 3}[r.Intn(4)]
			case 6:
				s.Rect.Size.H = []int{-1, 0, 2 * side}[r.Intn(3)]
			case 7:
				l = slices.Delete(l, at, at+1)
			}
		}
		e := Check(l)
		if want := modelCheck(l); e != want {
			t.Fatalf("Check(%v): %d; %d", l, e, want)
		}
		told[e]++
	}
	for _, e := range []api.Errno{api.OK, api.ErrArg, api.ErrRect, api.ErrClip} {
		if told[e] < 500 {
			t.Errorf("%d came %d times", e, told[e])
		}
	}
}

// P13.2 to P13.5, P13.8: lists by chance.
func TestThrown(t *testing.T) {
	r := rand.New(rand.NewSource(132))
	for range 3000 {
		l := thrown(r, r.Intn(14))
		strokes, at := modelFlat(l)
		flat(t, l, strokes, at)
		boundAgrees(t, l)
		norm(t, l, modelNorm(l))
		normFollows(t, l)
		q := thrownRects(r)
		form, e := region.Of(q)
		if e != api.OK {
			t.Fatal(e)
		}
		inside(t, l, q, modelWithin(l, form))
		withinFollows(t, l, q)
		movedFollows(t, l, point(r.Intn(3*side)-side, r.Intn(3*side)-side))
		if t.Failed() {
			t.FailNow()
		}
	}
}

// boundAgrees: Bound has just the places at which a stroke shows, in their form.
func boundAgrees(t *testing.T, l []api.Stroke) {
	t.Helper()
	var all []api.Rect
	board(func(p api.Point) {
		if len(modelAt(l, p)) > 0 {
			all = append(all, rect(p.X, p.Y, 1, 1))
		}
	})
	want, e := region.Of(all)
	if e != api.OK {
		t.Fatal(e)
	}
	bound(t, l, want)
}

// normFollows: P13.8 of Norm.
func normFollows(t *testing.T, l []api.Stroke) {
	t.Helper()
	n, e := Norm(l)
	if e != api.OK || Check(n) != api.OK {
		t.Fatalf("Norm(%v): %d, %d", l, e, Check(n))
	}
	board(func(p api.Point) {
		if got, want := modelSeen(modelAt(n, p)), modelSeen(modelAt(l, p)); !slices.Equal(got, want) {
			t.Fatalf("Norm(%v): %v: at %v %v, not %v", l, n, p, got, want)
		}
	})
	norm(t, n, n)
	less, e := Bound(n)
	all, e2 := Bound(l)
	if e != api.OK || e2 != api.OK {
		t.Fatalf("Bounds of %v: %d, %d", l, e, e2)
	}
	if out, e := region.Less(less, all); e != api.OK || len(out) > 0 {
		t.Fatalf("Norm(%v): its Bound has %v beside", l, out)
	}
}

// withinFollows: P13.8 of Within.
func withinFollows(t *testing.T, l []api.Stroke, q []api.Rect) {
	t.Helper()
	w, e := Within(l, q)
	if e != api.OK || Check(w) != api.OK {
		t.Fatalf("Within(%v, %v): %d, %d", l, q, e, Check(w))
	}
	board(func(p api.Point) {
		var want []api.Stroke
		if slices.ContainsFunc(q, func(r api.Rect) bool { return modelHas(r, p) }) {
			want = modelAt(l, p)
		}
		if got := modelAt(w, p); !slices.Equal(got, want) {
			t.Fatalf("Within(%v, %v): %v: at %v %v, not %v", l, q, w, p, got, want)
		}
	})
}

// movedFollows: P13.6, and P13.8 of Moved: the list, where both are told.
func movedFollows(t *testing.T, l []api.Stroke, by api.Point) {
	t.Helper()
	want := api.OK
	for _, s := range l {
		s.Rect.At = point(s.Rect.At.X+by.X, s.Rect.At.Y+by.Y)
		if s.Kind != api.Open && !modelRect(s.Rect) {
			want = api.ErrSize
		}
	}
	there, e := Moved(l, by)
	if e != want {
		t.Fatalf("Moved(%v, %v): %d, not %d", l, by, e, want)
	}
	if e != api.OK {
		return
	}
	if back, e := Moved(there, point(-by.X, -by.Y)); e != api.OK || !slices.Equal(back, l) {
		t.Fatalf("Moved(%v, %v) and back: %v, %d", l, by, back, e)
	}
}

// P13.8: a list moved shows what it showed, as much elsewhere; a list joined to another one shows both at each place.
func TestThrownMovedAndJoined(t *testing.T) {
	r := rand.New(rand.NewSource(133))
	for range 1000 {
		a, b := thrown(r, r.Intn(8)), thrown(r, r.Intn(8))
		by := point(r.Intn(100)-50, r.Intn(100)-50)
		there, e := Moved(a, by)
		if e != api.OK {
			t.Fatal(e)
		}
		_, at, _ := Flat(a)
		_, moved, _ := Flat(there)
		for i := range at {
			if at[i] != (api.Rect{}) {
				at[i].At = point(at[i].At.X+by.X, at[i].At.Y+by.Y)
			}
		}
		if !slices.Equal(at, moved) {
			t.Fatalf("Moved(%v, %v) shows in %v, not %v", a, by, moved, at)
		}
		both, e := Join(a, b)
		if e != api.OK || Check(both) != api.OK {
			t.Fatal(e, Check(both))
		}
		board(func(p api.Point) {
			if got, want := modelAt(both, p), slices.Concat(modelAt(a, p), modelAt(b, p)); !slices.Equal(got, want) {
				t.Fatalf("Join(%v, %v): at %v %v, not %v", a, b, p, got, want)
			}
		})
	}
}

// P13.2, P13.4: more strokes, on the same board, so that much is hidden.
func TestThrownLong(t *testing.T) {
	r := rand.New(rand.NewSource(134))
	for range 40 {
		l := thrown(r, 60)
		strokes, at := modelFlat(l)
		flat(t, l, strokes, at)
		norm(t, l, modelNorm(l))
		normFollows(t, l)
		q := thrownRects(r)
		form, _ := region.Of(q)
		inside(t, l, q, modelWithin(l, form))
	}
}
