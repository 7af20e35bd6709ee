package wrap

import (
	"math/rand"
	"slices"
	"testing"

	"casement/api"
	"casement/part"
)

// elsewhere is a part that is none of the program's: it measures what it is told, and has an inner one, though it is no wrapper.
type elsewhere struct {
	size  int
	inner part.Part
}

func (*elsewhere) Kind() uint8                      { return api.Canvas }
func (*elsewhere) Name() string                     { return "elsewhere" }
func (e *elsewhere) Measure(room api.Size) api.Size { return api.Size{W: e.size, H: e.size} }
func (e *elsewhere) Unwrap() part.Part              { return e.inner }

// TestAll: the errors in their order, wherever in the list they stand.
func TestAll(t *testing.T) {
	b := okButton(t)
	full := all(t, b, times(16, focus)...)
	ten := all(t, b, times(10, focus)...)
	for _, c := range []struct {
		p    part.Part
		l    []api.Wrap
		want api.Errno
	}{
		{nil, nil, api.ErrNone}, {nil, times(17, bad), api.ErrNone}, {nil, []api.Wrap{bad}, api.ErrNone}, {nil, []api.Wrap{focus}, api.ErrNone},
		{b, nil, api.OK}, {b, []api.Wrap{}, api.OK}, {full, nil, api.OK}, {part.Nil(api.Box), nil, api.OK},
		{b, times(16, focus), api.OK}, {b, times(17, focus), api.ErrMany}, {b, times(17, halved), api.ErrMany}, {b, times(17, bad), api.ErrMany},
		{b, []api.Wrap{focus, hide, bad}, api.ErrWrap}, {b, append(times(15, focus), bad), api.ErrWrap}, {b, []api.Wrap{halved, bad}, api.ErrWrap}, {b, []api.Wrap{{}}, api.ErrWrap},
		{full, []api.Wrap{focus}, api.ErrMany}, {full, []api.Wrap{focus, bad}, api.ErrWrap}, {full, []api.Wrap{halved}, api.OK}, {full, []api.Wrap{focus, halved}, api.ErrMany},
		{full, append([]api.Wrap{halved}, times(15, focus)...), api.OK},
		{ten, times(6, pad(1)), api.OK}, {ten, times(7, pad(1)), api.ErrMany}, {ten, append(times(6, pad(1)), halved), api.OK}, {ten, append(times(6, pad(1)), halved, pad(1)), api.OK},
		{ten, append(times(7, pad(1)), halved), api.ErrMany},
		{all(t, full, halved), times(16, focus), api.OK},
	} {
		if p, e := All(c.p, c.l); e != c.want || (p != nil) != (e == api.OK) {
			t.Errorf("All(.., %v) = %v, %d, want %d", c.l, p, int(e), int(c.want))
		}
	}
	if p := all(t, b); p != b {
		t.Errorf("All without a wrapper: %v", p)
	}
	p := part.Part(b)
	for _, w := range []api.Wrap{focus, hide, drop, named("q")} {
		p, _ = Around(p, w)
	}
	q := all(t, b, focus, hide, drop, named("q"))
	if part.Can(p) != part.Can(q) || p.Name() != q.Name() || part.Can(q) != 19 {
		t.Errorf("one by one and all at once: %d, %d", part.Can(p), part.Can(q))
	}
}

// TestMade: part's errors first, then those of wrappers.
func TestMade(t *testing.T) {
	b := okButton(t)
	for _, c := range []struct {
		n     api.Node
		parts []part.Part
		want  api.Errno
	}{
		{api.Node{Kind: api.Label}, nil, api.OK},
		{api.Node{}, nil, api.ErrKind}, {api.Node{Kind: 11, Wraps: times(17, bad)}, nil, api.ErrKind},
		{api.Node{Kind: api.Label, Gap: -1}, nil, api.ErrArg}, {api.Node{Kind: api.Label, Gap: -1, Wraps: times(17, bad)}, nil, api.ErrArg},
		{api.Node{Kind: api.Box, Wraps: []api.Wrap{bad}}, make([]part.Part, 1025), api.ErrMany},
		{api.Node{Kind: api.Label, Wraps: []api.Wrap{bad}}, []part.Part{b}, api.ErrPart}, {api.Node{Kind: api.Scroll, Wraps: []api.Wrap{bad}}, []part.Part{b, b}, api.ErrPart},
		{api.Node{Kind: api.Label, Wraps: []api.Wrap{{}}}, nil, api.ErrWrap}, {api.Node{Kind: api.Label, Wraps: []api.Wrap{focus, focus, bad}}, nil, api.ErrWrap},
		{api.Node{Kind: api.Label, Wraps: times(17, bad)}, nil, api.ErrMany}, {api.Node{Kind: api.Label, Wraps: times(17, focus)}, nil, api.ErrMany}, {api.Node{Kind: api.Label, Wraps: times(16, focus)}, nil, api.OK},
		{api.Node{Kind: api.Label, Kids: []int{5, 5}, Hidden: true}, nil, api.OK},
	} {
		if p, e := Made(c.n, c.parts); e != c.want || (p != nil) != (e == api.OK) {
			t.Errorf("Made(%.80v, %d parts) = %v, %d, want %d", c.n, len(c.parts), p, int(e), int(c.want))
		}
	}
	dice := rand.New(rand.NewSource(72))
	for i := range 400 {
		n := api.Node{Kind: modelKinds()[i%10], Name: "n", Text: "ab\ncde", Order: 4, Wraps: thrown(dice, 16)}
		p, e := Made(n, nil)
		if e != api.OK {
			t.Fatalf("Made(%v): %d", n, int(e))
		}
		base := made(t, n)
		holdAgainst(t, p, model{base, part.Can(base), n.Wraps})
	}
	kids := []part.Part{b, nil, part.Nil(api.Gap)}
	p, _ := Made(api.Node{Kind: api.Box, Wraps: []api.Wrap{pad(1)}}, kids)
	if got, e := part.Parts(p); e != api.OK || !slices.Equal(got, kids) {
		t.Errorf("Parts of what Made answered: %v, %d", got, int(e))
	}
}

func TestInner(t *testing.T) {
	b := okButton(t)
	half := all(t, b, halved)
	hollow := part.Nil(api.Field)
	foreign, empty := &elsewhere{inner: b}, &elsewhere{}
	for i, c := range []struct {
		p     part.Part
		inner part.Part
		steps int
	}{
		{nil, nil, 0}, {b, b, 0}, {hollow, hollow, 0},
		{all(t, b, focus), b, 1}, {all(t, b, focus, hide, pad(2)), b, 3}, {all(t, b, times(16, drop)...), b, 16}, {all(t, hollow, focus, hide), hollow, 2},
		{half, half, 0}, {all(t, half, focus), half, 1}, {all(t, b, focus, halved, focus, pad(1)), half, 2}, {all(t, half, halved), half, 0},

		// What has an inner one is asked for it, wherever it comes from.
		{foreign, b, 1}, {all(t, foreign, focus), b, 2}, {empty, empty, 0}, {all(t, empty, focus, hide), empty, 2},
	} {
		if p, steps := Inner(c.p); p != c.inner || steps != c.steps {
			t.Errorf("%d: Inner is a %T, %d, want a %T, %d", i, p, steps, c.inner, c.steps)
		}
	}
}

// TestElsewhere: what is none of the package's is no wrapper, whatever it has inside.
func TestElsewhere(t *testing.T) {
	full := all(t, okButton(t), times(16, focus)...)
	p := part.Part(&elsewhere{inner: full})
	q := all(t, p, times(16, pad(0))...)
	if _, e := Around(q, focus); e != api.ErrMany {
		t.Errorf("Around 16 wrappers about a part from elsewhere: %d", int(e))
	}
}

// TestThrown: W1: any wrappers about any part, and what follows of it.
func TestThrown(t *testing.T) {
	dice := rand.New(rand.NewSource(73))
	basic := bases(t)
	for i := range 1500 {
		base := basic[i%len(basic)]
		can := part.Can(base)
		l := thrown(dice, 16)
		p, e := All(base, l)
		if e != api.OK {
			t.Fatalf("All(%T, %v): %d", base, l, int(e))
		}
		m := model{base, can, l}
		holdAgainst(t, p, m)
		if says, e := Says(can, l); says != part.Can(p) || e != api.OK {
			t.Fatalf("Says(%d, %v) = %d, %d; it can %d", can, l, says, int(e), part.Can(p))
		}
		if missing, e := part.Must(p, part.Can(p)); missing != 0 || e != api.OK {
			t.Fatalf("Must of %v: %d, %d", l, missing, int(e))
		}
		inner, steps := Inner(p)
		if steps != m.wrappers() || !slices.Contains(l, halved) && inner != base {
			t.Fatalf("Inner of %v: %T, %d, want %T, %d", l, inner, steps, base, m.wrappers())
		}
		if _, e := Around(p, focus); (e == api.ErrMany) != (m.wrappers() == 16) {
			t.Fatalf("Around %v: %d", l, int(e))
		}
	}
}

// TestNothingElse: a WrapName changes nothing but the name, a WrapPad but what is measured and painted; and what is measured grows by all pads.
func TestNothingElse(t *testing.T) {
	dice := rand.New(rand.NewSource(74))
	basic := bases(t)
	for i := range 300 {
		base := basic[i%len(basic)]
		l := thrown(dice, 14)
		if (model{base, part.Can(base), l}).hollow() {
			continue // a wrapper about it is of another kind
		}
		p := all(t, base, l...)
		q := all(t, p, named("other"))
		if q.Name() != "other" || q.Kind() != p.Kind() || part.Can(q) != part.Can(p) {
			t.Fatalf("a WrapName about %v: %q, %d, %d", l, q.Name(), q.Kind(), part.Can(q))
		}
		for _, room := range rooms() {
			was, e := part.Measure(p, room)
			is, f := part.Measure(q, room)
			if was != is || e != f {
				t.Fatalf("a WrapName about %v measures %v, %d, not %v, %d", l, is, int(f), was, int(e))
			}
		}
		q = all(t, p, pad(3))
		if q.Name() != p.Name() || q.Kind() != p.Kind() || part.Can(q) != part.Can(p) {
			t.Fatalf("a WrapPad about %v: %q, %d, %d", l, q.Name(), q.Kind(), part.Can(q))
		}
		was, e := part.Order(p)
		is, f := part.Order(q)
		if was != is || e != f {
			t.Fatalf("a WrapPad about %v has the order %d, %d, not %d, %d", l, is, int(f), was, int(e))
		}
	}
	label := made(t, api.Node{Kind: api.Label, Text: "ab\ncde"})
	for range 300 {
		sum, p := 0, label
		for range dice.Intn(17) {
			w := []api.Wrap{pad(dice.Intn(9)), focus, named("x"), drop, only(3)}[dice.Intn(5)]
			sum += 2 * w.Number
			if w.Kind == api.WrapFocus {
				sum -= 2 * w.Number
			}
			p = all(t, p, w)
		}
		if got, e := part.Measure(p, api.Size{}); got != (api.Size{W: 3 + sum, H: 2 + sum}) || e != api.OK {
			t.Fatalf("with pads of %d in all: %v, %d", sum, got, int(e))
		}
	}
}

// TestMemory: what is handed in stays, its spare room too, and is not kept; lists that are answered are new.
func TestMemory(t *testing.T) {
	b := okButton(t)
	room := []api.Wrap{focus, drop, pad(2), named("kept"), named("spare"), named("spare")}
	l := room[:4]
	was := slices.Clone(room)
	n := api.Node{Kind: api.Box, Name: "n", Wraps: l}
	kids := []part.Part{b, b, b}
	p, e := All(b, l)
	q, f := Made(n, kids[:2])
	says, g := Says(7, l)
	if e != api.OK || f != api.OK || g != api.OK || says != 23 {
		t.Fatalf("%d, %d, %d, %d", int(e), int(f), int(g), says)
	}
	if !slices.Equal(room, was) || kids[0] != b || kids[1] != b || kids[2] != b {
		t.Errorf("what was handed in is changed: %v", room)
	}
	clear(room)
	clear(kids)
	for _, p := range []part.Part{p, q} {
		if n, _ := part.Order(p); n != 7 || p.Name() != "kept" {
			t.Errorf("what was handed in is kept: %d, %q", n, p.Name())
		}
		if is, _ := part.Takes(p, "file"); !is {
			t.Error("what was handed in is kept: it does not take a file any more")
		}
	}
	first, _ := part.Parts(q)
	if len(first) != 2 || first[0] != b {
		t.Fatalf("Parts: %v", first)
	}
	clear(first)
	if second := q.(part.Holder).Parts(); len(second) != 2 || second[0] != b || second[1] != b {
		t.Errorf("Parts, once more: %v", second)
	}
}
