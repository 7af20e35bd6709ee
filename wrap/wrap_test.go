package wrap

import (
	"math"
	"math/rand"
	"reflect"
	"slices"
	"strings"
	"testing"

	"casement/api"
	"casement/part"
)

var (
	focus  = api.Wrap{Kind: api.WrapFocus, Number: 7}
	hide   = api.Wrap{Kind: api.WrapHide, Mask: 4}
	drop   = api.Wrap{Kind: api.WrapDrop, Text: "file"}
	halved = api.Wrap{Kind: api.WrapHalf}
	bad    = api.Wrap{Kind: api.WrapPad, Number: -1}
)

func only(mask uint16) api.Wrap { return api.Wrap{Kind: api.WrapOnly, Mask: mask} }
func pad(n int) api.Wrap        { return api.Wrap{Kind: api.WrapPad, Number: n} }
func named(s string) api.Wrap   { return api.Wrap{Kind: api.WrapName, Text: s} }

func okButton(t *testing.T) part.Part {
	t.Helper()
	return made(t, api.Node{Kind: api.Button, Name: "b", Text: "ok", Order: 3})
}

// TestCheck: each thing of a wrapper at its ends, and beyond them.
func TestCheck(t *testing.T) {
	long := strings.Repeat("x", 64)
	for _, c := range []struct {
		w    api.Wrap
		want api.Errno
	}{
		{api.Wrap{}, api.ErrWrap}, {api.Wrap{Kind: 7}, api.OK}, {api.Wrap{Kind: 8}, api.ErrWrap}, {api.Wrap{Kind: 255}, api.ErrWrap},

		{api.Wrap{Kind: api.WrapHide, Mask: 64}, api.ErrWrap}, {api.Wrap{Kind: api.WrapHide, Mask: 63}, api.OK}, {api.Wrap{Kind: api.WrapHide}, api.OK},
		{api.Wrap{Kind: api.WrapOnly, Mask: 127}, api.ErrWrap}, {api.Wrap{Kind: api.WrapOnly, Mask: 63}, api.OK}, {api.Wrap{Kind: api.WrapOnly}, api.OK},
		{api.Wrap{Kind: api.WrapHide, Mask: 0x8000}, api.ErrWrap},
		{api.Wrap{Kind: api.WrapPad, Mask: 1}, api.ErrWrap}, {api.Wrap{Kind: api.WrapName, Mask: 1}, api.ErrWrap}, {api.Wrap{Kind: api.WrapFocus, Mask: 4}, api.ErrWrap},
		{api.Wrap{Kind: api.WrapDrop, Mask: 16, Text: "x"}, api.ErrWrap}, {api.Wrap{Kind: api.WrapHalf, Mask: 63}, api.ErrWrap},

		{pad(-1), api.ErrWrap}, {pad(0), api.OK}, {pad(16384), api.OK}, {pad(16385), api.ErrWrap}, {pad(math.MaxInt), api.ErrWrap}, {pad(math.MinInt), api.ErrWrap},
		{api.Wrap{Kind: api.WrapFocus, Number: -2}, api.ErrWrap}, {api.Wrap{Kind: api.WrapFocus, Number: -1}, api.OK}, {api.Wrap{Kind: api.WrapFocus}, api.OK},
		{api.Wrap{Kind: api.WrapFocus, Number: 1 << 20}, api.OK}, {api.Wrap{Kind: api.WrapFocus, Number: 1<<20 + 1}, api.ErrWrap},
		{api.Wrap{Kind: api.WrapHide, Number: 1}, api.ErrWrap}, {api.Wrap{Kind: api.WrapOnly, Number: -1}, api.ErrWrap}, {api.Wrap{Kind: api.WrapName, Number: 1}, api.ErrWrap},
		{api.Wrap{Kind: api.WrapDrop, Number: 1, Text: "x"}, api.ErrWrap}, {api.Wrap{Kind: api.WrapHalf, Number: 1}, api.ErrWrap},

		{named(""), api.OK}, {named(long), api.OK}, {named(long + "x"), api.ErrWrap}, {named("\xff"), api.ErrWrap}, {named("a\xc3"), api.ErrWrap}, {named("\ufffd\x00\n"), api.OK},
		{named(strings.Repeat("é", 32)), api.OK}, {named(strings.Repeat("é", 32) + "x"), api.ErrWrap},
		{api.Wrap{Kind: api.WrapDrop}, api.ErrWrap}, {api.Wrap{Kind: api.WrapDrop, Text: long}, api.OK}, {api.Wrap{Kind: api.WrapDrop, Text: long + "x"}, api.ErrWrap},
		{api.Wrap{Kind: api.WrapDrop, Text: "\xed\xa0\x80"}, api.ErrWrap}, {api.Wrap{Kind: api.WrapDrop, Text: " "}, api.OK},
		{api.Wrap{Kind: api.WrapHide, Text: "x"}, api.ErrWrap}, {api.Wrap{Kind: api.WrapOnly, Text: "x"}, api.ErrWrap}, {api.Wrap{Kind: api.WrapPad, Text: "x"}, api.ErrWrap},
		{api.Wrap{Kind: api.WrapFocus, Text: "x"}, api.ErrWrap}, {api.Wrap{Kind: api.WrapHalf, Text: "x"}, api.ErrWrap},
	} {
		if got := Check(c.w); got != c.want {
			t.Errorf("Check(%.60v) = %d, want %d", c.w, int(got), int(c.want))
		}
	}
}

// TestCheckAll: all kinds with all masks, numbers and texts that lie at an end.
func TestCheckAll(t *testing.T) {
	b := okButton(t)
	for kind := range 256 {
		for _, mask := range []uint16{0, 1, 4, 63, 64, 65, 0x8000, 0xffff} {
			for _, number := range []int{math.MinInt, -2, -1, 0, 1, 16384, 16385, 1 << 20, 1<<20 + 1, math.MaxInt} {
				for _, text := range []string{"", "x", strings.Repeat("x", 64), strings.Repeat("x", 65), "\xff", "a\xe2\x82"} {
					w := api.Wrap{Kind: uint8(kind), Mask: mask, Number: number, Text: text}
					want := api.OK
					if !modelMayBe(w) {
						want = api.ErrWrap
					}
					l := []api.Wrap{w}
					p, around := Around(b, w)
					q, wrapped := All(b, l)
					says, said := Says(7, l)
					if Check(w) != want || around != want || wrapped != want || said != want {
						t.Fatalf("%.60v: Check %d, Around %d, All %d, Says %d, want %d", w, int(Check(w)), int(around), int(wrapped), int(said), int(want))
					}
					if ok := want == api.OK; (p != nil) != ok || (q != nil) != ok || !ok && says != 0 {
						t.Fatalf("%.60v: beside %d there is %v, %v, %d", w, int(want), p, q, says)
					}
				}
			}
		}
	}
}

func TestSays(t *testing.T) {
	for _, c := range []struct {
		can  uint16
		l    []api.Wrap
		want uint16
		e    api.Errno
	}{
		{63, []api.Wrap{hide}, 59, api.OK},
		{64, nil, 0, api.ErrArg},
		{7, []api.Wrap{bad}, 0, api.ErrWrap},
		{0, nil, 0, api.OK}, {63, nil, 63, api.OK}, {63, []api.Wrap{}, 63, api.OK}, {0xffff, nil, 0, api.ErrArg}, {0x8001, []api.Wrap{hide}, 0, api.ErrArg},

		// One kind after the other.
		{7, []api.Wrap{{Kind: api.WrapHide}}, 7, api.OK}, {7, []api.Wrap{{Kind: api.WrapHide, Mask: 63}}, 0, api.OK}, {33, []api.Wrap{hide}, 33, api.OK},
		{7, []api.Wrap{only(2)}, 2, api.OK}, {7, []api.Wrap{only(0)}, 0, api.OK}, {7, []api.Wrap{only(63)}, 7, api.OK}, {7, []api.Wrap{only(56)}, 0, api.OK},
		{3, []api.Wrap{pad(9)}, 3, api.OK}, {3, []api.Wrap{named("x")}, 3, api.OK},
		{3, []api.Wrap{focus}, 7, api.OK}, {7, []api.Wrap{focus}, 7, api.OK}, {0, []api.Wrap{{Kind: api.WrapFocus, Number: -1}}, 4, api.OK},
		{3, []api.Wrap{drop}, 19, api.OK}, {23, []api.Wrap{drop}, 23, api.OK},
		{63, []api.Wrap{halved}, 0, api.OK},

		// What stands about it counts from the inside on.
		{7, []api.Wrap{hide, focus}, 7, api.OK}, {7, []api.Wrap{focus, hide}, 3, api.OK},
		{7, []api.Wrap{drop, only(2)}, 2, api.OK}, {7, []api.Wrap{only(2), drop}, 18, api.OK},
		{63, []api.Wrap{halved, focus}, 4, api.OK}, {63, []api.Wrap{halved, focus, drop}, 20, api.OK}, {63, []api.Wrap{focus, halved}, 0, api.OK},
		{63, []api.Wrap{halved, only(63)}, 0, api.OK}, {63, []api.Wrap{halved, focus, halved, drop}, 16, api.OK},

		// How many, and the errors in their order.
		{3, times(16, focus), 7, api.OK}, {3, times(17, focus), 0, api.ErrMany}, {3, append(times(16, focus), halved), 0, api.ErrMany},
		{64, times(17, bad), 0, api.ErrArg}, {3, times(17, bad), 0, api.ErrMany}, {3, append(times(15, focus), bad), 0, api.ErrWrap},
		{3, append([]api.Wrap{bad}, times(16, focus)...), 0, api.ErrMany}, {3, []api.Wrap{halved, bad}, 0, api.ErrWrap}, {128, []api.Wrap{bad}, 0, api.ErrArg},
	} {
		if got, e := Says(c.can, c.l); got != c.want || e != c.e {
			t.Errorf("Says(%d, %v) = %d, %d, want %d, %d", c.can, c.l, got, int(e), c.want, int(c.e))
		}
	}
}

// TestSaysAll: all sets of abilities, with each mask, with each wrapper and with thrown lists.
func TestSaysAll(t *testing.T) {
	dice := rand.New(rand.NewSource(71))
	for can := range uint16(64) {
		for mask := range uint16(64) {
			for _, kind := range []uint8{api.WrapHide, api.WrapOnly} {
				l := []api.Wrap{{Kind: kind, Mask: mask}}
				if got, e := Says(can, l); got != modelSays(can, l) || e != api.OK {
					t.Fatalf("Says(%d, %v) = %d, %d", can, l, got, int(e))
				}
			}
		}
		for _, w := range some() {
			l := []api.Wrap{w}
			if got, e := Says(can, l); got != modelSays(can, l) || e != api.OK {
				t.Fatalf("Says(%d, %v) = %d, %d", can, l, got, int(e))
			}
		}
		for range 200 {
			l := thrown(dice, 16)
			if got, e := Says(can, l); got != modelSays(can, l) || e != api.OK {
				t.Fatalf("Says(%d, %v) = %d, %d", can, l, got, int(e))
			}
		}
	}
}

// TestExamples: those of the chapter.
func TestExamples(t *testing.T) {
	b := okButton(t)
	for _, c := range []struct {
		l    []api.Wrap
		want uint16
	}{{[]api.Wrap{hide}, 3}, {[]api.Wrap{hide, focus}, 7}, {[]api.Wrap{focus, hide}, 3}, {[]api.Wrap{only(2)}, 2}, {[]api.Wrap{drop}, 23}} {
		if got := part.Can(all(t, b, c.l...)); got != c.want {
			t.Errorf("Can of %v: %d, want %d", c.l, got, c.want)
		}
	}
	if n, e := part.Order(all(t, b, focus)); n != 7 || e != api.OK {
		t.Errorf("Order: %d, %d", n, int(e))
	}
	if is, e := part.Takes(all(t, b, drop), "file"); !is || e != api.OK {
		t.Errorf("Takes of file: %v, %d", is, int(e))
	}
	if is, e := part.Takes(all(t, b, drop), "text"); is || e != api.OK {
		t.Errorf("Takes of text: %v, %d", is, int(e))
	}
	if name := all(t, b, named("c")).Name(); name != "c" {
		t.Errorf("Name: %q", name)
	}
	if s, e := part.Measure(all(t, b, pad(2)), api.Size{}); s != (api.Size{W: 10, H: 5}) || e != api.OK {
		t.Errorf("Measure: %v, %d", s, int(e))
	}
	if s, e := part.Measure(all(t, b, pad(2)), api.Size{W: 5}); s != (api.Size{W: 5, H: 5}) || e != api.OK {
		t.Errorf("Measure in 5 0: %v, %d", s, int(e))
	}
	half := all(t, b, halved)
	if p, steps := Inner(half); !part.None(half) || part.Can(half) != 0 || p != half || steps != 0 {
		t.Errorf("a WrapHalf: %v, %d, %v, %d", part.None(half), part.Can(half), p, steps)
	}
	if p := all(t, b, halved, focus); part.Can(p) != 4 || part.None(p) || p.Kind() != 9 {
		t.Errorf("a WrapFocus about a WrapHalf: %d, %v, %d", part.Can(p), part.None(p), p.Kind())
	}
	p := all(t, part.Nil(api.Button), focus)
	_, measured := part.Measure(p, api.Size{})
	if n, e := part.Order(p); part.Can(p) != 7 || measured != api.ErrNone || n != 7 || e != api.OK {
		t.Errorf("a WrapFocus about a hollow Button: %d, %d, %d, %d", part.Can(p), int(measured), n, int(e))
	}
	if p, e := Around(nil, focus); p != nil || e != api.ErrNone {
		t.Errorf("Around no part: %v, %d", p, int(e))
	}
}

// TestSets: each set of abilities has a type, which has just their methods, pointers all of them.
func TestSets(t *testing.T) {
	field := made(t, api.Node{Kind: api.Field, Text: "x", Order: 5})
	scroll := made(t, api.Node{Kind: api.Scroll, Off: api.Point{X: 3, Y: 4}}, field)
	types := map[reflect.Type]uint16{}
	for can := range uint16(64) {
		l := []api.Wrap{drop, only(can)}
		p := all(t, scroll, l...)
		holdAgainst(t, p, model{scroll, 47, l})
		kind := reflect.TypeOf(p)
		if other, ok := types[kind]; ok || kind.Kind() != reflect.Pointer || part.None(p) {
			t.Errorf("what can %d is a %v, as what can %d", can, kind, other)
		}
		types[kind] = can
		if m, e := part.Must(p, can); m != 0 || e != api.OK {
			t.Errorf("what can %d: Must tells %d, %d", can, m, int(e))
		}
	}
}

// TestAround: each wrapper about parts of every kind, and about hollow ones; and each about each.
func TestAround(t *testing.T) {
	for _, base := range bases(t) {
		can := part.Can(base)
		for _, w := range some() {
			p, e := Around(base, w)
			if e != api.OK {
				t.Fatalf("Around(%T, %v): %d", base, w, int(e))
			}
			holdAgainst(t, p, model{base, can, []api.Wrap{w}})
			for _, v := range []api.Wrap{pad(1), named("d"), focus, drop, hide, only(63), halved} {
				q, e := Around(p, v)
				if e != api.OK {
					t.Fatalf("Around(%T, %v): %d", p, v, int(e))
				}
				holdAgainst(t, q, model{base, can, []api.Wrap{w, v}})
			}
		}
	}
}

// TestUnwrap: each wrapper is an Unwrapper, whose inner one is the value that it was put about; of a WrapHalf there is none.
func TestUnwrap(t *testing.T) {
	for _, base := range append(bases(t), all(t, okButton(t), focus), all(t, okButton(t), halved)) {
		for _, w := range some() {
			p, _ := Around(base, w)
			u, ok := p.(Unwrapper)
			if !ok {
				t.Fatalf("%v is no Unwrapper", w)
			}
			want := base
			if w.Kind == api.WrapHalf {
				want = nil
			}
			if got := u.Unwrap(); got != want {
				t.Errorf("Unwrap of %v about %T: %T", w, base, got)
			}
		}
	}
}

// TestHalf: a nil pointer of a type with three methods, whatever it stands about.
func TestHalf(t *testing.T) {
	for _, base := range append(bases(t), all(t, okButton(t), times(16, focus)...), all(t, okButton(t), halved)) {
		p, e := Around(base, halved)
		if e != api.OK || p == nil || p.Kind() != 0 || p.Name() != "" || !part.None(p) || part.Can(p) != 0 {
			t.Fatalf("a WrapHalf about %T: %v, %d", base, p, int(e))
		}
		v := reflect.ValueOf(p)
		if v.Kind() != reflect.Pointer || !v.IsNil() || !slices.Equal(methods(p), []string{"Kind", "Name", "Unwrap"}) {
			t.Errorf("a WrapHalf about %T is a %v with %v", base, v.Type(), methods(p))
		}
		if _, e := part.Measure(p, api.Size{}); e != api.ErrNone {
			t.Errorf("Measure of a WrapHalf: %d", int(e))
		}
		if m, e := part.Must(p, 63); m != 1 || e != api.ErrPart {
			t.Errorf("Must of a WrapHalf: %d, %d", m, int(e))
		}
	}
}

// TestAroundErrors: in their order, and how many wrappers there may be.
func TestAroundErrors(t *testing.T) {
	b := okButton(t)
	full := all(t, b, times(16, focus)...)
	fifteen := all(t, b, times(15, pad(1))...)
	for _, c := range []struct {
		p    part.Part
		w    api.Wrap
		want api.Errno
	}{
		{nil, focus, api.ErrNone}, {nil, bad, api.ErrNone}, {nil, halved, api.ErrNone}, {nil, api.Wrap{}, api.ErrNone},
		{part.Nil(api.Button), focus, api.OK}, {part.Nil(api.Button), bad, api.ErrWrap},
		{full, bad, api.ErrWrap}, {full, focus, api.ErrMany}, {full, hide, api.ErrMany}, {full, pad(0), api.ErrMany}, {full, named(""), api.ErrMany}, {full, drop, api.ErrMany}, {full, only(0), api.ErrMany},
		{full, halved, api.OK}, {full, api.Wrap{Kind: api.WrapHalf, Number: 1}, api.ErrWrap},
		{fifteen, focus, api.OK},
		{all(t, full, halved), focus, api.OK},
		{all(t, all(t, full, halved), times(15, focus)...), focus, api.OK},
		{all(t, all(t, full, halved), times(16, focus)...), focus, api.ErrMany},
		{all(t, part.Nil(api.Box), times(15, drop)...), focus, api.OK},
		{all(t, part.Nil(api.Box), times(16, drop)...), focus, api.ErrMany},
		{all(t, fifteen, only(0)), focus, api.ErrMany},
	} {
		if p, e := Around(c.p, c.w); e != c.want || (p != nil) != (e == api.OK) {
			t.Errorf("Around(.., %v) = %v, %d, want %d", c.w, p, int(e), int(c.want))
		}
	}
	// A part that stands in a box stands in no wrapper of it.
	box := all(t, made(t, api.Node{Kind: api.Box}, full), times(15, focus)...)
	if _, e := Around(box, focus); e != api.OK {
		t.Errorf("Around a box with 15 wrappers: %d", int(e))
	}
}

// TestPads: what leaves nothing, what goes beyond MaxSide, what room bounds.
func TestPads(t *testing.T) {
	size := func(w, h int) api.Size { return api.Size{W: w, H: h} }
	for _, c := range []struct {
		text string
		pads []int
		room api.Size
		want api.Size
	}{
		{"abc", nil, size(0, 0), size(3, 1)},
		{"abc", []int{0}, size(0, 0), size(3, 1)},
		{"abc", []int{1}, size(0, 0), size(5, 3)},
		{"abc", []int{1, 2, 3}, size(0, 0), size(15, 13)},
		{"abc", []int{5}, size(9, 0), size(9, 11)},
		{"abc", []int{5}, size(0, 9), size(13, 9)},
		{"abc", []int{5}, size(2, 2), size(2, 2)}, // the inner one is bound to 2 and 1 already
		{"abc", []int{5}, size(13, 11), size(13, 11)},
		{"abc", []int{5}, size(14, 12), size(13, 11)},
		{"abc", []int{1}, size(4, 4), size(4, 3)}, // asked with the same room, not with what the pad leaves of it
		{"abc", []int{8190}, size(0, 0), size(16383, 16381)},
		{"abc", []int{8191}, size(0, 0), size(16384, 16383)},
		{"abc", []int{8192}, size(0, 0), size(16384, 16384)},
		{"abc", []int{16384}, size(0, 0), size(16384, 16384)},
		{"abc", []int{16384, 16384}, size(7, 0), size(7, 16384)},
		{strings.Repeat("a", 20000), nil, size(0, 0), size(20000, 1)},
		{strings.Repeat("a", 20000), []int{0}, size(0, 0), size(16384, 1)},
		{strings.Repeat("a", 20000), []int{1}, size(0, 0), size(16384, 3)},
		{strings.Repeat("a", 20000), []int{1}, size(300, 2), size(300, 2)},
	} {
		p := made(t, api.Node{Kind: api.Label, Text: c.text})
		for _, n := range c.pads {
			p = all(t, p, pad(n))
		}
		if got, e := part.Measure(p, c.room); got != c.want || e != api.OK {
			t.Errorf("Measure of %.9q with %v in %v: %v, %d, want %v", c.text, c.pads, c.room, got, int(e), c.want)
		}
	}
	rect := func(x, y, w, h int) api.Rect { return api.Rect{At: api.Point{X: x, Y: y}, Size: api.Size{W: w, H: h}} }
	for _, c := range []struct {
		pads []int
		r    api.Rect
		want []api.Rect
	}{
		{[]int{0}, rect(-3, 5, 8, 5), []api.Rect{rect(-3, 5, 8, 5)}},
		{[]int{2}, rect(-3, 5, 8, 5), []api.Rect{rect(-1, 7, 4, 1)}},
		{[]int{1, 1}, rect(-3, 5, 8, 5), []api.Rect{rect(-1, 7, 4, 1)}},
		{[]int{2, 1}, rect(-3, 5, 8, 5), nil},
		{[]int{3}, rect(-3, 5, 8, 5), nil},
		{[]int{4}, rect(-3, 5, 8, 20), nil},
		{[]int{16384}, rect(-16384, -16384, 32768, 32768), nil},
		{[]int{16383}, rect(-16384, -16384, 32768, 32768), []api.Rect{rect(-1, -1, 2, 2)}},
		{[]int{1}, rect(4, 4, 0, 9), nil},
	} {
		p := made(t, api.Node{Kind: api.Label, Text: "abc"})
		for _, n := range c.pads {
			p = all(t, p, pad(n))
		}
		l, e := part.Strokes(p, c.r, api.Look{})
		var got []api.Rect
		for _, s := range l {
			got = append(got, s.Rect)
		}
		if e != api.OK || !slices.Equal(got, c.want) {
			t.Errorf("Strokes with %v in %v: %v, %d, want %v", c.pads, c.r, got, int(e), c.want)
		}
	}
}

// TestMethodsAsked: the methods themselves, asked past part's calls, do not mind what may not be.
func TestMethodsAsked(t *testing.T) {
	p := all(t, okButton(t), pad(2))
	if got := p.(part.Measurer).Measure(api.Size{W: -4, H: math.MinInt}); got != (api.Size{W: 10, H: 5}) {
		t.Errorf("Measure in a room below 0: %v", got)
	}
	if got := p.(part.Painter).Strokes(api.Rect{Size: api.Size{W: -1, H: 3}}, api.Look{}); len(got) != 0 {
		t.Errorf("Strokes in what is no rectangle: %v", got)
	}
	huge := all(t, &elsewhere{size: math.MaxInt}, pad(16384))
	if got := huge.(part.Measurer).Measure(api.Size{}); got != (api.Size{W: 16384, H: 16384}) {
		t.Errorf("Measure of the greatest number: %v", got)
	}
}

// TestDrops: about what can't accept, about what can, and about another one.
func TestDrops(t *testing.T) {
	b, field := okButton(t), made(t, api.Node{Kind: api.Field})
	image := api.Wrap{Kind: api.WrapDrop, Text: "image"}
	deaf := api.Wrap{Kind: api.WrapHide, Mask: api.Accepts}
	for _, c := range []struct {
		p    part.Part
		want string
	}{
		{all(t, b, drop), "file"}, {all(t, field, drop), "text file"}, {all(t, b, drop, image), "file image"}, {all(t, b, image, drop), "file image"},
		{all(t, field, drop, image), "text file image"}, {all(t, field, deaf, drop), "file"}, {all(t, field, drop, deaf, image), "image"},
		{all(t, field, drop, focus, pad(1), named("x")), "text file"}, {all(t, field, halved, drop), "file"}, {all(t, field, pad(1)), "text"},
		{all(t, b, drop, drop), "file"}, {all(t, field, api.Wrap{Kind: api.WrapDrop, Text: "text"}), "text"},
	} {
		for _, kind := range []string{"", "text", "file", "image", "filex", "fil", "File"} {
			want := kind != "" && slices.Contains(strings.Fields(c.want), kind)
			if got, e := part.Takes(c.p, kind); got != want || e != api.OK {
				t.Errorf("what takes %q takes %q: %v, %d", c.want, kind, got, int(e))
			}
		}
	}
	hollow := all(t, part.Nil(api.Field), drop)
	if is, e := part.Takes(hollow, "file"); !is || e != api.OK {
		t.Errorf("about a hollow Field, file: %v, %d", is, int(e))
	}
	if is, e := part.Takes(hollow, "text"); is || e != api.ErrNone {
		t.Errorf("about a hollow Field, text: %v, %d", is, int(e))
	}
}

// TestHiddenAndAdded: what is hidden and added again is there; what is shown alone stays so, whatever was added within.
func TestHiddenAndAdded(t *testing.T) {
	b := okButton(t)
	if n, e := part.Order(all(t, b, hide, focus)); n != 7 || e != api.OK {
		t.Errorf("hidden and added again: %d, %d", n, int(e))
	}
	if n, e := part.Order(all(t, b, focus, hide)); n != 0 || e != api.ErrNone {
		t.Errorf("added and hidden: %d, %d", n, int(e))
	}
	p := all(t, b, focus, drop, only(2), pad(1))
	if part.Can(p) != 2 {
		t.Errorf("shown alone: %d", part.Can(p))
	}
	if n, e := part.Order(all(t, b, focus, pad(1), api.Wrap{Kind: api.WrapFocus, Number: -1}, named("x"))); n != -1 || e != api.OK {
		t.Errorf("the outermost WrapFocus: %d, %d", n, int(e))
	}
}
