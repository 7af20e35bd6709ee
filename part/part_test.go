package part

import (
	"math"
	"reflect"
	"slices"
	"strings"
	"testing"

	"casement/api"
)

// TestMakeKinds: each of the ten is made, hollow or not; no other number is a kind.
func TestMakeKinds(t *testing.T) {
	for number := range 256 {
		kind := uint8(number)
		p, e := Make(api.Node{Kind: kind, Name: "n"}, nil)
		q := Nil(kind)
		if number < 1 || number > 10 {
			if p != nil || e != api.ErrKind || q != nil {
				t.Errorf("the kind %d: Make %v, %d, Nil %v", kind, p, int(e), q)
			}
			continue
		}
		if e != api.OK || p == nil || p.Kind() != kind || p.Name() != "n" || None(p) {
			t.Errorf("Make of the kind %d: %v, %d", kind, p, int(e))
		}
		if q == nil || q.Kind() != 0 || q.Name() != "" || !None(q) {
			t.Errorf("Nil of the kind %d: %v", kind, q)
		}
	}
}

// TestMethods: a part has Kind, Name and the methods that its kind can; no others. A hollow one is a nil pointer of the same type.
func TestMethods(t *testing.T) {
	names := []string{"Measure", "Strokes", "Order", "Offset", "Takes", "Parts"}
	for _, kind := range modelKinds() {
		want := []string{"Kind", "Name"}
		for i, name := range names {
			if modelCan(kind)&(1<<i) != 0 {
				want = append(want, name)
			}
		}
		slices.Sort(want)
		p, q := made(t, api.Node{Kind: kind}), Nil(kind)
		var got []string
		for m := range reflect.TypeOf(p).Methods() {
			got = append(got, m.Name)
		}
		if !slices.Equal(got, want) {
			t.Errorf("the kind %d has %v, want %v", kind, got, want)
		}
		if v := reflect.ValueOf(q); v.Kind() != reflect.Pointer || !v.IsNil() || v.Type() != reflect.TypeOf(p) {
			t.Errorf("Nil of the kind %d is a %v of %v", kind, v.Kind(), v.Type())
		}
	}
}

// TestHollowMethods: all methods of a hollow part but Kind and Name panic.
func TestHollowMethods(t *testing.T) {
	panics := func(f func()) (did bool) {
		defer func() { did = recover() != nil }()
		f()
		return
	}
	count := 0
	for _, kind := range modelKinds() {
		q := Nil(kind)
		var calls []func()
		if a, ok := q.(Measurer); ok {
			calls = append(calls, func() { a.Measure(api.Size{}) })
		}
		if a, ok := q.(Painter); ok {
			calls = append(calls, func() { a.Strokes(api.Rect{}, api.Look{}) })
		}
		if a, ok := q.(Focuser); ok {
			calls = append(calls, func() { a.Order() })
		}
		if a, ok := q.(Scroller); ok {
			calls = append(calls, func() { a.Offset() })
		}
		if a, ok := q.(Accepter); ok {
			calls = append(calls, func() { a.Takes("text") })
		}
		if a, ok := q.(Holder); ok {
			calls = append(calls, func() { a.Parts() })
		}
		for i, call := range calls {
			count++
			if !panics(call) {
				t.Errorf("a hollow part of the kind %d answers its call %d", kind, i)
			}
		}
	}
	if count != 24 {
		t.Errorf("hollow parts have %d methods beside Kind and Name", count)
	}
}

// TestMakeNode: each thing of a node at its ends, and one beyond them, by all kinds.
func TestMakeNode(t *testing.T) {
	long := func(n int) string { return strings.Repeat("x", n) }
	const side, much = 16384, 1 << 20
	for _, c := range []struct {
		n    api.Node
		want api.Errno
	}{
		{api.Node{}, api.OK},
		{api.Node{Name: long(64)}, api.OK}, {api.Node{Name: long(65)}, api.ErrArg},
		{api.Node{Name: strings.Repeat("é", 32)}, api.OK}, {api.Node{Name: strings.Repeat("é", 32) + "x"}, api.ErrArg},
		{api.Node{Name: "\xff"}, api.ErrArg}, {api.Node{Name: "a\xc3"}, api.ErrArg}, {api.Node{Name: "\ufffd"}, api.OK}, {api.Node{Name: "a\n\x00"}, api.OK},
		{api.Node{Class: long(64)}, api.OK}, {api.Node{Class: long(65)}, api.ErrArg}, {api.Node{Class: "a b"}, api.OK},
		{api.Node{Class: "\xed\xa0\x80"}, api.ErrArg}, {api.Node{Class: "\xc0\x80"}, api.ErrArg},
		{api.Node{Text: long(1 << 16)}, api.OK}, {api.Node{Text: long(1<<16 + 1)}, api.ErrArg},
		{api.Node{Text: "a\xff"}, api.ErrArg}, {api.Node{Text: "\ufffd\U0010ffff\x00\n"}, api.OK}, {api.Node{Text: "\xf4\x90\x80\x80"}, api.ErrArg},

		{api.Node{Min: api.Size{W: side, H: side}}, api.OK},
		{api.Node{Min: api.Size{W: side + 1}}, api.ErrArg}, {api.Node{Min: api.Size{H: side + 1}}, api.ErrArg},
		{api.Node{Min: api.Size{W: -1}}, api.ErrArg}, {api.Node{Min: api.Size{H: -1}}, api.ErrArg},
		{api.Node{Min: api.Size{W: math.MinInt}}, api.ErrArg}, {api.Node{Min: api.Size{H: math.MaxInt}}, api.ErrArg},
		{api.Node{Max: api.Size{W: side, H: side}}, api.OK},
		{api.Node{Max: api.Size{W: side + 1}}, api.ErrArg}, {api.Node{Max: api.Size{H: side + 1}}, api.ErrArg},
		{api.Node{Max: api.Size{W: -1}}, api.ErrArg}, {api.Node{Max: api.Size{H: -1}}, api.ErrArg},
		{api.Node{Min: api.Size{W: 5, H: 5}, Max: api.Size{W: 5, H: 5}}, api.OK},
		{api.Node{Min: api.Size{W: 5, H: 5}, Max: api.Size{W: 4, H: 5}}, api.ErrArg},
		{api.Node{Min: api.Size{W: 5, H: 5}, Max: api.Size{W: 5, H: 4}}, api.ErrArg},
		{api.Node{Min: api.Size{W: 5, H: 5}, Max: api.Size{W: 0, H: 5}}, api.OK},
		{api.Node{Min: api.Size{W: 5, H: 5}, Max: api.Size{W: 5, H: 0}}, api.OK},
		{api.Node{Min: api.Size{W: 5, H: 1}, Max: api.Size{W: 6, H: 4}}, api.OK},
		{api.Node{Min: api.Size{W: side, H: side}, Max: api.Size{W: side, H: side}}, api.OK},
		{api.Node{Min: api.Size{W: side}, Max: api.Size{W: 1}}, api.ErrArg},

		{api.Node{Grow: side}, api.OK}, {api.Node{Grow: side + 1}, api.ErrArg}, {api.Node{Grow: -1}, api.ErrArg},
		{api.Node{Order: much}, api.OK}, {api.Node{Order: much + 1}, api.ErrArg}, {api.Node{Order: -1}, api.OK}, {api.Node{Order: -2}, api.ErrArg},
		{api.Node{Columns: 64}, api.OK}, {api.Node{Columns: 65}, api.ErrArg}, {api.Node{Columns: -1}, api.ErrArg},
		{api.Node{Span: 64}, api.OK}, {api.Node{Span: 65}, api.ErrArg}, {api.Node{Span: -1}, api.ErrArg},
		{api.Node{Gap: side}, api.OK}, {api.Node{Gap: side + 1}, api.ErrArg}, {api.Node{Gap: -1}, api.ErrArg},
		{api.Node{Off: api.Point{X: much, Y: much}}, api.OK},
		{api.Node{Off: api.Point{X: much + 1}}, api.ErrArg}, {api.Node{Off: api.Point{Y: much + 1}}, api.ErrArg},
		{api.Node{Off: api.Point{X: -1}}, api.ErrArg}, {api.Node{Off: api.Point{Y: -1}}, api.ErrArg},

		// Hidden, Column, Wraps and Kids count for nothing, whatever they are.
		{api.Node{Hidden: true, Column: true}, api.OK},
		{api.Node{Wraps: make([]api.Wrap, 17), Kids: []int{-1, 0, 0, 9999}}, api.OK},
		{api.Node{Wraps: []api.Wrap{{Kind: api.WrapHalf}, {Kind: 99, Mask: 999, Number: -5, Text: "\xff"}}}, api.OK},
	} {
		for _, kind := range append(modelKinds(), 0, 11) {
			c.n.Kind = kind
			want := c.want
			if kind == 0 || kind == 11 {
				want = api.ErrKind // ahead of all else
			}
			p, e := Make(c.n, nil)
			if e != want || (p == nil) != (e != api.OK) {
				t.Errorf("Make(%.60v of the kind %d): %v, %d, want %d", c.n, kind, p != nil, int(e), int(want))
			}
			if e == api.OK && (p.Kind() != kind || p.Name() != c.n.Name || None(p) || Can(p) != modelCan(kind)) {
				t.Errorf("Make(%.60v): %d, %q, %d", c.n, p.Kind(), p.Name(), Can(p))
			}
		}
	}
}

// TestMakeParts: how many parts a kind holds, and the errors in their order.
func TestMakeParts(t *testing.T) {
	for _, kind := range modelKinds() {
		most := 0
		switch kind {
		case api.Box, api.Grid, api.Stack:
			most = 1024
		case api.Scroll:
			most = 1
		}
		for _, count := range []int{0, 1, 2, 3, 1023, 1024, 1025, 1026, 5000} {
			want := api.OK
			if count > 1024 {
				want = api.ErrMany // ahead of ErrPart
			} else if count > most {
				want = api.ErrPart
			}
			parts := make([]Part, count)
			p, e := Make(api.Node{Kind: kind}, parts)
			if e != want || (p == nil) != (e != api.OK) {
				t.Errorf("Make of the kind %d with %d parts: %v, %d, want %d", kind, count, p != nil, int(e), int(want))
			}
			if p, e = Make(api.Node{Kind: kind, Gap: -1}, parts); p != nil || e != api.ErrArg { // ahead of both
				t.Errorf("Make of the kind %d with a bad Gap and %d parts: %v, %d", kind, count, p != nil, int(e))
			}
			if p, e = Make(api.Node{Kind: 11, Gap: -1}, parts); p != nil || e != api.ErrKind { // ahead of all
				t.Errorf("Make of no kind with a bad Gap and %d parts: %v, %d", count, p != nil, int(e))
			}
			if p, e = Make(api.Node{Kind: kind}, parts); e != api.OK {
				continue
			}
			if modelCan(kind)&32 == 0 {
				continue
			}
			if l, e := Parts(p); e != api.OK || len(l) != count {
				t.Errorf("Parts of the kind %d with %d parts: %d, %d", kind, count, len(l), int(e))
			}
		}
	}
}

// TestParts: the parts that it was made with, in order, no parts and hollow ones among them, as the values that they are.
func TestParts(t *testing.T) {
	kid := made(t, api.Node{Kind: api.Label, Name: "kid"})
	within := made(t, api.Node{Kind: api.Stack, Name: "within"}, kid)
	foreign := &shy{}
	all := []Part{nil, kid, Nil(api.Gap), kid, within, foreign, Nil(api.Box), nil}
	for _, kind := range []uint8{api.Box, api.Grid, api.Stack} {
		if got, e := Parts(made(t, api.Node{Kind: kind}, all...)); e != api.OK || !slices.Equal(got, all) {
			t.Errorf("Parts of the kind %d: %v, %d", kind, got, int(e))
		}
		if got, e := Parts(made(t, api.Node{Kind: kind})); e != api.OK || len(got) != 0 {
			t.Errorf("Parts of the kind %d with none: %v, %d", kind, got, int(e))
		}
	}
	for _, one := range append(all, Nil(api.Scroll)) {
		if got, e := Parts(made(t, api.Node{Kind: api.Scroll}, one)); e != api.OK || !slices.Equal(got, []Part{one}) {
			t.Errorf("Parts of a Scroll: %v, %d", got, int(e))
		}
	}
	got, e := Parts(made(t, api.Node{Kind: api.Scroll}))
	if e != api.OK || len(got) != 0 {
		t.Errorf("Parts of a Scroll with none: %v, %d", got, int(e))
	}
}

// TestPartsMemory: a list of its own each time, by the call and by the method; the one handed in is neither kept nor changed.
func TestPartsMemory(t *testing.T) {
	kid, other := made(t, api.Node{Kind: api.Label}), made(t, api.Node{Kind: api.Gap})
	for _, kind := range []uint8{api.Box, api.Grid, api.Stack, api.Scroll} {
		room := []Part{kid, other, other}
		p, e := Make(api.Node{Kind: kind}, room[:1])
		if e != api.OK {
			t.Fatalf("Make of the kind %d: %d", kind, int(e))
		}
		room[0] = other
		one, _ := Parts(p)
		two := p.(Holder).Parts()
		three := p.(Holder).Parts()
		four, _ := Parts(p)
		for _, l := range [][]Part{one, two, three, four} {
			if len(l) != 1 || l[0] != kid {
				t.Fatalf("Parts of the kind %d: %v", kind, l)
			}
			for i := range l[:cap(l)] {
				l[:cap(l)][i] = nil
			}
		}
		if l, _ := Parts(p); len(l) != 1 || l[0] != kid {
			t.Errorf("the kind %d hands out the list that it keeps", kind)
		}
		if room[0] != other || room[1] != other || room[2] != other {
			t.Errorf("the kind %d changed what was handed in", kind)
		}
	}
	// A part that hands out what it keeps: the call's list is its own all the same.
	o := &open{held: []Part{kid, other}}
	l, e := Parts(o)
	if e != api.OK || !slices.Equal(l, o.held) {
		t.Fatalf("Parts: %v, %d", l, int(e))
	}
	l[0] = nil
	if o.held[0] != kid {
		t.Error("Parts hands out what a part keeps")
	}
}

// TestNodeStays: Make only reads a node, and keeps none of its lists.
func TestNodeStays(t *testing.T) {
	for _, kind := range modelKinds() {
		n := api.Node{Kind: kind, Name: "n", Text: "t", Wraps: []api.Wrap{{Kind: 1}, {Kind: 2}}, Kids: []int{3, 1, 2}, Off: api.Point{X: 1}}
		kept := n
		kept.Wraps, kept.Kids = slices.Clone(n.Wraps), slices.Clone(n.Kids)
		p := made(t, n)
		codes(t, p)
		if !reflect.DeepEqual(n, kept) {
			t.Errorf("Make of the kind %d changed the node: %v", kind, n)
		}
	}
}

// TestCan holds P6.2 and P6.8 of made, hollow and foreign parts, and of none.
func TestCan(t *testing.T) {
	for _, kind := range modelKinds() {
		want := modelCan(kind)
		for _, p := range []Part{made(t, api.Node{Kind: kind}), made(t, api.Node{Kind: kind, Name: "n", Text: "a\nb", Hidden: true, Order: -1, Min: api.Size{W: 5}})} {
			if got := Can(p); got != want || None(p) {
				t.Errorf("the kind %d: Can %d, None %v", kind, got, None(p))
			}
			if got := codes(t, p); got != codesOf(want) {
				t.Errorf("the six calls of the kind %d: %v, want %v", kind, got, codesOf(want))
			}
		}
		q := Nil(kind)
		if got := Can(q); got != want || !None(q) {
			t.Errorf("a hollow part of the kind %d: Can %d, None %v", kind, got, None(q))
		}
		if got := codes(t, q); got != codesOf(0) {
			t.Errorf("the six calls of a hollow part of the kind %d: %v", kind, got)
		}
	}
	for _, c := range []struct {
		p    Part
		can  uint16
		none bool
		want [6]api.Errno
	}{
		{nil, 0, true, codesOf(0)},
		{Nil(0), 0, true, codesOf(0)}, {Nil(11), 0, true, codesOf(0)},
		{&shy{}, 0, false, codesOf(0)},
		{&rash{}, 63, false, codesOf(0)},
		{&open{}, 33, false, codesOf(33)},
		{&zero{}, 63, true, codesOf(0)},
	} {
		if Can(c.p) != c.can || None(c.p) != c.none {
			t.Errorf("%T: Can %d, None %v", c.p, Can(c.p), None(c.p))
		}
		if got := codes(t, c.p); got != c.want {
			t.Errorf("the six calls of %T: %v", c.p, got)
		}
	}
}

// TestMust: all masks of all parts; Must's assertions tell just what Can's do.
func TestMust(t *testing.T) {
	parts := []Part{&shy{}, &rash{}, &open{}, &zero{}}
	for _, kind := range modelKinds() {
		parts = append(parts, made(t, api.Node{Kind: kind}), Nil(kind))
	}
	for _, p := range parts {
		for number := range 1 << 16 {
			mask := uint16(number)
			wantBit, want := modelMust(Can(p), mask)
			if mask > 63 {
				wantBit, want = 0, api.ErrArg
			}
			if bit, e := Must(p, mask); bit != wantBit || e != want {
				t.Fatalf("Must(%T, %d): %d, %d, want %d, %d", p, mask, bit, int(e), wantBit, int(want))
			}
		}
		if bit, e := Must(p, Can(p)); bit != 0 || e != api.OK {
			t.Errorf("Must(%T) of Can: %d, %d", p, bit, int(e))
		}
	}
	for number := range 1 << 16 {
		want := api.ErrNone
		if number > 63 {
			want = api.ErrArg
		}
		if bit, e := Must(nil, uint16(number)); bit != 0 || e != want {
			t.Fatalf("Must(no part, %d): %d, %d", number, bit, int(e))
		}
	}
}

// TestMustExamples are the chapter's.
func TestMustExamples(t *testing.T) {
	label, canvas := made(t, api.Node{Kind: api.Label}), made(t, api.Node{Kind: api.Canvas})
	for _, c := range []struct {
		p    Part
		mask uint16
		bit  uint16
		want api.Errno
	}{
		{label, 3, 0, api.OK}, {label, 6, 4, api.ErrPart}, {canvas, 63, 1, api.ErrPart}, {nil, 1, 0, api.ErrNone}, {label, 64, 0, api.ErrArg},
		{nil, 0, 0, api.ErrNone}, {nil, 64, 0, api.ErrArg}, {label, 0, 0, api.OK}, {label, 60, 4, api.ErrPart}, {label, 56, 8, api.ErrPart}, {label, 48, 16, api.ErrPart}, {label, 33, 32, api.ErrPart},
		{label, 65, 0, api.ErrArg}, {label, 0x8000, 0, api.ErrArg}, {Nil(api.Button), 7, 0, api.OK}, {Nil(api.Button), 63, 8, api.ErrPart}, {Nil(api.Button), 0, 0, api.OK}, {Nil(api.Gap), 64, 0, api.ErrArg},
	} {
		if bit, e := Must(c.p, c.mask); bit != c.bit || e != c.want {
			t.Errorf("Must(%T, %d): %d, %d, want %d, %d", c.p, c.mask, bit, int(e), c.bit, int(c.want))
		}
	}
}
