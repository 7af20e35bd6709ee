package wrap

import (
	"math/rand"
	"reflect"
	"slices"
	"strings"
	"testing"
	"unicode/utf8"

	"casement/api"
	"casement/part"
)

// modelKinds are all ten of parts.
func modelKinds() []uint8 {
	return []uint8{api.Label, api.Button, api.Field, api.Box, api.Grid, api.Scroll, api.Spinner, api.Canvas, api.Gap, api.Stack}
}

// modelMayBe is the chapter's 'A wrapper may be', word by word.
func modelMayBe(w api.Wrap) bool {
	if w.Kind < 1 || w.Kind > 7 {
		return false
	}
	if w.Mask > 63 || w.Mask != 0 && w.Kind != api.WrapHide && w.Kind != api.WrapOnly {
		return false
	}
	switch {
	case w.Kind == api.WrapPad && (w.Number < 0 || w.Number > 16384):
		return false
	case w.Kind == api.WrapFocus && (w.Number < -1 || w.Number > 1048576):
		return false
	case w.Kind != api.WrapPad && w.Kind != api.WrapFocus && w.Number != 0:
		return false
	}
	if w.Kind != api.WrapName && w.Kind != api.WrapDrop {
		return w.Text == ""
	}
	if w.Kind == api.WrapDrop && w.Text == "" {
		return false
	}
	return len(w.Text) <= 64 && utf8.ValidString(w.Text)
}

// modelSays is what DOC.md says of wrappers, ability by ability.
func modelSays(can uint16, l []api.Wrap) uint16 {
	for _, w := range l {
		var next uint16
		for bit := uint16(1); bit <= 32; bit *= 2 {
			has, in := can&bit != 0, w.Mask&bit != 0
			switch w.Kind {
			case api.WrapHide:
				has = has && !in
			case api.WrapOnly:
				has = has && in
			case api.WrapFocus:
				has = has || bit == 4
			case api.WrapDrop:
				has = has || bit == 16
			case api.WrapHalf:
				has = false
			}
			if has {
				next += bit
			}
		}
		can = next
	}
	return can
}

// model is a part within wrappers, told by its words: a base and what stands about it.
type model struct {
	base part.Part
	can  uint16
	l    []api.Wrap
}

func (m model) within() model {
	return model{m.base, m.can, m.l[:len(m.l)-1]}
}

func (m model) last() api.Wrap {
	if len(m.l) == 0 {
		return api.Wrap{}
	}
	return m.l[len(m.l)-1]
}

func (m model) says() uint16 { return modelSays(m.can, m.l) }

func (m model) hollow() bool {
	if len(m.l) == 0 {
		return m.base.Kind() == 0
	}
	return m.last().Kind == api.WrapHalf
}

func (m model) kind() uint8 {
	switch {
	case len(m.l) == 0:
		return m.base.Kind()
	case m.last().Kind == api.WrapHalf:
		return 0
	case m.within().kind() == 0:
		return 9
	}
	return m.within().kind()
}

func (m model) name() string {
	switch {
	case len(m.l) == 0:
		return m.base.Name()
	case m.last().Kind == api.WrapHalf:
		return ""
	case m.last().Kind == api.WrapName:
		return m.last().Text
	}
	return m.within().name()
}

// wrappers is how many stand about one another at the outside.
func (m model) wrappers() int {
	n := 0
	for len(m.l) > 0 && m.last().Kind != api.WrapHalf {
		m = m.within()
		n++
	}
	return n
}

// The abilities; the second answer is false where a call comes to a hollow part within.

func (m model) measure(room api.Size) (api.Size, bool) {
	if len(m.l) == 0 || m.last().Kind == api.WrapHalf {
		s, e := part.Measure(m.base, room)
		return s, e == api.OK && len(m.l) == 0
	}
	s, ok := m.within().measure(room)
	if !ok || m.last().Kind != api.WrapPad {
		return s, ok
	}
	s.W += 2 * m.last().Number
	s.H += 2 * m.last().Number
	for _, n := range []*int{&s.W, &s.H} {
		if *n > 16384 {
			*n = 16384
		}
	}
	if room.W > 0 && s.W > room.W {
		s.W = room.W
	}
	if room.H > 0 && s.H > room.H {
		s.H = room.H
	}
	return s, true
}

func (m model) strokes(r api.Rect, look api.Look) ([]api.Stroke, bool) {
	if len(m.l) == 0 || m.last().Kind == api.WrapHalf {
		l, e := part.Strokes(m.base, r, look)
		return l, e == api.OK && len(m.l) == 0
	}
	if m.last().Kind == api.WrapPad {
		n := m.last().Number
		r = api.Rect{At: api.Point{X: r.At.X + n, Y: r.At.Y + n}, Size: api.Size{W: r.Size.W - 2*n, H: r.Size.H - 2*n}}
		if r.Size.W <= 0 || r.Size.H <= 0 {
			r = api.Rect{}
		}
	}
	return m.within().strokes(r, look)
}

func (m model) order() (int, bool) {
	switch {
	case len(m.l) == 0:
		n, e := part.Order(m.base)
		return n, e == api.OK
	case m.last().Kind == api.WrapFocus:
		return m.last().Number, true
	case m.last().Kind == api.WrapHalf:
		return 0, false
	}
	return m.within().order()
}

func (m model) offset() (api.Point, bool) {
	p, e := part.Offset(m.base)
	return p, e == api.OK
}

func (m model) takes(kind string) (bool, bool) {
	switch {
	case len(m.l) == 0:
		is, e := part.Takes(m.base, kind)
		return is, e == api.OK
	case m.last().Kind == api.WrapHalf:
		return false, false
	case m.last().Kind == api.WrapDrop && m.last().Text == kind:
		return true, true
	case m.last().Kind == api.WrapDrop && m.within().says()&16 == 0:
		return false, true
	}
	return m.within().takes(kind)
}

func (m model) parts() ([]part.Part, bool) {
	l, e := part.Parts(m.base)
	return l, e == api.OK
}

// asked holds an answer of part's calls against the model's: ErrNone of hollow ones, of those that can't, and where a call comes to a hollow one.
func asked[V any](t *testing.T, what string, m model, ability uint16, got V, e api.Errno, want func() (V, bool)) {
	t.Helper()
	var nothing V
	if !m.hollow() && m.says()&ability != 0 {
		if v, ok := want(); ok {
			if e != api.OK || !same(got, v) {
				t.Fatalf("%s of %v: %v, %d, want %v", what, m.l, got, int(e), v)
			}
			return
		}
	}
	if e != api.ErrNone || !same(got, nothing) {
		t.Fatalf("%s of %v: %v, %d, want ErrNone", what, m.l, got, int(e))
	}
}

// same tells whether two answers are the same; lists without elements are.
func same(a, b any) bool {
	v, w := reflect.ValueOf(a), reflect.ValueOf(b)
	if v.Kind() == reflect.Slice && v.Len() == 0 && w.Len() == 0 {
		return true
	}
	return reflect.DeepEqual(a, b)
}

// holdAgainst asks a wrapped part all that can be asked, and holds it against the model.
func holdAgainst(t *testing.T, p part.Part, m model) {
	t.Helper()
	if p == nil {
		t.Fatalf("%v: no part", m.l)
	}
	if part.None(p) != m.hollow() || part.Can(p) != m.says() || p.Kind() != m.kind() || p.Name() != m.name() {
		t.Fatalf("%v: None %v, Can %d, Kind %d, Name %q; want %v, %d, %d, %q", m.l, part.None(p), part.Can(p), p.Kind(), p.Name(), m.hollow(), m.says(), m.kind(), m.name())
	}
	if got, want := methods(p), wantMethods(m); !slices.Equal(got, want) {
		t.Fatalf("%v: methods %v, want %v", m.l, got, want)
	}
	for _, room := range rooms() {
		size, e := part.Measure(p, room)
		asked(t, "Measure", m, 1, size, e, func() (api.Size, bool) { return m.measure(room) })
	}
	look := api.Look{Has: 15, Colour: api.Colour{R: 1, A: 255}, Back: api.Colour{G: 2, A: 255}, Border: true, Pad: 1}
	for _, r := range rects() {
		for _, look := range []api.Look{{}, look} {
			strokes, e := part.Strokes(p, r, look)
			asked(t, "Strokes", m, 2, strokes, e, func() ([]api.Stroke, bool) { return m.strokes(r, look) })
		}
	}
	order, e := part.Order(p)
	asked(t, "Order", m, 4, order, e, m.order)
	off, e := part.Offset(p)
	asked(t, "Offset", m, 8, off, e, m.offset)
	for _, kind := range []string{"", "text", "file", "x"} {
		is, e := part.Takes(p, kind)
		asked(t, "Takes "+kind, m, 16, is, e, func() (bool, bool) { return m.takes(kind) })
	}
	parts, e := part.Parts(p)
	asked(t, "Parts", m, 32, parts, e, m.parts)
}

// methods are the names of the methods that a part's type has.
func methods(p part.Part) []string {
	var l []string
	for m := range reflect.TypeOf(p).Methods() {
		l = append(l, m.Name)
	}
	return l
}

func wantMethods(m model) []string {
	l := []string{"Kind", "Name"}
	if len(m.l) > 0 {
		l = append(l, "Unwrap")
	}
	for i, name := range []string{"Measure", "Strokes", "Order", "Offset", "Takes", "Parts"} {
		if m.says()&(1<<i) != 0 {
			l = append(l, name)
		}
	}
	slices.Sort(l)
	return l
}

func rooms() []api.Size {
	return []api.Size{{}, {W: 5}, {H: 3}, {W: 1, H: 1}, {W: 40, H: 30}, {W: api.MaxSide, H: api.MaxSide}}
}

func rects() []api.Rect {
	return []api.Rect{
		{}, {At: api.Point{X: 5, Y: 5}}, {At: api.Point{X: -3, Y: 4}, Size: api.Size{W: 1, H: 1}},
		{Size: api.Size{W: 9, H: 4}}, {At: api.Point{X: 7, Y: -9}, Size: api.Size{W: 30, H: 40}},
		{At: api.Point{X: -api.MaxSide, Y: -api.MaxSide}, Size: api.Size{W: 2 * api.MaxSide, H: 2 * api.MaxSide}},
	}
}

// bases are parts without wrappers: one of each kind, one hollow one of each.
func bases(t *testing.T) []part.Part {
	t.Helper()
	kid := made(t, api.Node{Kind: api.Label, Name: "kid", Text: "kid"})
	var l []part.Part
	for i, kind := range modelKinds() {
		n := api.Node{Kind: kind, Name: "n", Text: "ab\ncde", Order: i + 1, Off: api.Point{X: i, Y: 2}}
		var kids []part.Part
		switch kind {
		case api.Box, api.Grid, api.Stack:
			kids = []part.Part{kid, nil, part.Nil(api.Gap)}
		case api.Scroll:
			kids = []part.Part{kid}
		}
		l = append(l, made(t, n, kids...), part.Nil(kind))
	}
	return l
}

// some are wrappers that may be, of all kinds.
func some() []api.Wrap {
	l := []api.Wrap{
		{Kind: api.WrapPad}, {Kind: api.WrapPad, Number: 1}, {Kind: api.WrapPad, Number: 3}, {Kind: api.WrapPad, Number: api.MaxSide},
		{Kind: api.WrapName}, {Kind: api.WrapName, Text: "c"}, {Kind: api.WrapName, Text: strings.Repeat("é", 32)},
		{Kind: api.WrapFocus, Number: -1}, {Kind: api.WrapFocus}, {Kind: api.WrapFocus, Number: 1 << 20},
		{Kind: api.WrapDrop, Text: "file"}, {Kind: api.WrapDrop, Text: "text"},
		{Kind: api.WrapHalf},
	}
	for _, mask := range []uint16{0, 1, 2, 4, 8, 16, 32, 21, 42, 62, 63} {
		l = append(l, api.Wrap{Kind: api.WrapHide, Mask: mask}, api.Wrap{Kind: api.WrapOnly, Mask: mask})
	}
	return l
}

// thrown are wrappers that may be, as many as the dice say; few of them hide much, or nothing would be left to see.
func thrown(dice *rand.Rand, most int) []api.Wrap {
	l := make([]api.Wrap, dice.Intn(most+1))
	for i := range l {
		switch w := some()[dice.Intn(len(some()))]; w.Kind {
		case api.WrapHide:
			l[i] = api.Wrap{Kind: api.WrapHide, Mask: 1 << dice.Intn(6)}
		case api.WrapOnly:
			l[i] = api.Wrap{Kind: api.WrapOnly, Mask: 63 &^ (1 << dice.Intn(6))}
		default:
			l[i] = w
		}
	}
	return l
}

// made is the part of a node that may be, without wrappers.
func made(t *testing.T, n api.Node, parts ...part.Part) part.Part {
	t.Helper()
	p, e := part.Make(n, parts)
	if e != api.OK || p == nil {
		t.Fatalf("Make of the kind %d: %d", n.Kind, int(e))
	}
	return p
}

// all is All of what may be.
func all(t *testing.T, p part.Part, l ...api.Wrap) part.Part {
	t.Helper()
	q, e := All(p, l)
	if e != api.OK || q == nil {
		t.Fatalf("All of %v: %d", l, int(e))
	}
	return q
}

// times is a wrapper, again and again.
func times(n int, w api.Wrap) []api.Wrap {
	return slices.Repeat([]api.Wrap{w}, n)
}
