package damage

import (
	"math/rand"
	"slices"
	"testing"

	"casement/api"
	"casement/cells"
	"casement/list"
	"casement/region"
)

func pick[T any](r *rand.Rand, l ...T) T { return l[r.Intn(len(l))] }

func thrownColour(r *rand.Rand) api.Colour {
	return pick(r, none, red, blue, white, thin, api.Colour{G: 200, B: 3, A: 1}, api.Colour{G: 77, B: 9, A: 254}, red, blue)
}

func thrownRect(r *rand.Rand) api.Rect {
	return rect(r.Intn(11)-3, r.Intn(8)-2, r.Intn(8), r.Intn(6))
}

func thrownText(r *rand.Rand) string {
	text := ""
	for range r.Intn(5) {
		text += pick(r, "a", "b", "\u4e00", "\U0001f300", "\n", "e\u0301", "\xff")
	}
	return text
}

func thrownStroke(r *rand.Rand) api.Stroke {
	s := api.Stroke{Kind: 1 + uint8(r.Intn(3)), Rect: thrownRect(r), Colour: thrownColour(r), Node: r.Intn(4)}
	if s.Kind == api.Write {
		s.Text, s.Back = thrownText(r), thrownColour(r)
	}
	return s
}

// thrownList is a drawing list of so many strokes, and of Opens behind them.
func thrownList(r *rand.Rand, n int) []api.Stroke {
	var l []api.Stroke
	opened := 0
	for range n {
		switch {
		case r.Intn(6) == 0:
			l = append(l, by(r.Intn(4), api.Stroke{Kind: api.Clip, Rect: pick(r, thrownRect(r), rect(-3, -3, 20, 20))}))
			opened++
		case opened > 0 && r.Intn(5) == 0:
			l = append(l, by(r.Intn(4), open()))
			opened--
		default:
			l = append(l, thrownStroke(r))
		}
	}
	return append(l, slices.Repeat(of(open()), opened)...)
}

// thrownNext is a list with some things done to it: mostly it has much in common with the first one.
func thrownNext(r *rand.Rand, l []api.Stroke) []api.Stroke {
	if r.Intn(10) == 0 {
		return thrownList(r, r.Intn(12))
	}
	for range pick(r, 0, 1, 1, 1, 2, 3, 4) {
		if next := withChange(r, l); list.Check(next) == api.OK {
			l = next
		}
	}
	return l
}

// withChange is a list with one thing done to it, by which it may be no drawing list any more.
func withChange(r *rand.Rand, l []api.Stroke) []api.Stroke {
	from := r.Intn(len(l) + 1)
	to := from + r.Intn(len(l)-from+1)
	switch r.Intn(7) {
	case 0:
		return slices.Insert(slices.Clone(l), from, thrownStroke(r))
	case 1: // a piece of it twice, or more often
		return slices.Concat(l[:to], slices.Repeat(l[from:to], r.Intn(3)), l[to:])
	case 2:
		return slices.Concat(l[:from], within(pick(r, thrownRect(r), rect(-3, -3, 20, 20)), l[from:to]...), l[to:])
	case 3:
		return slices.Concat(l[from:], l[:from])
	case 4:
		return slices.Delete(slices.Clone(l), from, min(to, from+2))
	}
	if from == len(l) {
		return l
	}
	l = slices.Clone(l)
	if r.Intn(3) == 0 {
		other := r.Intn(len(l))
		l[from], l[other] = l[other], l[from]
		return l
	}
	l[from] = withField(r, l[from])
	return l
}

func withField(r *rand.Rand, s api.Stroke) api.Stroke {
	switch r.Intn(6) {
	case 0:
		s.Node = r.Intn(5)
	case 1:
		s.Colour = thrownColour(r)
	case 2:
		s.Back = thrownColour(r)
	case 3:
		s.Text = thrownText(r)
	case 4:
		s.Rect = thrownRect(r)
	case 5:
		s.Kind = pick(r, api.Fill, api.Frame)
	}
	return s
}

// P17.1, P17.4, P17.6, P17.7: lists by chance.
func TestThrownLists(t *testing.T) {
	r := rand.New(rand.NewSource(171))
	told, named, both := 0, 0, 0
	for range 6000 {
		a := thrownList(r, r.Intn(9))
		b := thrownNext(r, a)
		damage, names := modelOf(a, b), modelNodes(a, b)
		differ(t, a, b, damage...)
		moved(t, a, b, names...)
		differ(t, a, a)
		moved(t, b, b)
		if t.Failed() {
			t.FailNow()
		}
		if region.Check(damage) != api.OK {
			t.Fatalf("%v is no form", damage)
		}
		told += min(len(damage), 1)
		named += min(len(names), 1)
		if len(damage) > 0 && len(names) == 0 {
			both++
		}
	}
	if told < 2000 || named < 2000 || both < 100 {
		t.Errorf("%d damaged, %d with nodes, %d without", told, named, both)
	}
}

// P17.2, P17.3, P17.6, P17.7 (W5): screens of lists by chance.
func TestThrownScreens(t *testing.T) {
	r := rand.New(rand.NewSource(172))
	changed, less := 0, 0
	for range 6000 {
		a := thrownList(r, r.Intn(9))
		b := thrownNext(r, a)
		s := pick(r, size(8, 6), size(1+r.Intn(9), 1+r.Intn(6)))
		old, now := screenOf(t, s, a...), screenOf(t, s, b...)
		damage, e := Of(a, b)
		if e != api.OK {
			t.Fatal(e)
		}
		mended(t, old, b, damage, now)
		mended(t, now, a, damage, old)
		unlike(t, old, now, modelChanged(old, now)...)
		showTheSame(t, a, b, damage, s)
		seen, _ := Changed(old, now)
		out, e := region.Less(seen, damage)
		if len(out) > 0 || e != api.OK {
			t.Errorf("%v, %v: %v changed beside %v", a, b, out, damage)
		}
		changed += min(len(seen), 1)
		if len(seen) > 0 && !slices.Equal(seen, damage) {
			less++
		}
		if t.Failed() {
			t.FailNow()
		}
	}
	if changed < 1000 || less < 300 {
		t.Errorf("%d changed, %d of them less than told", changed, less)
	}
}

// showTheSame: P17.6: where a place is not in the damage, both lists show the same strokes there, in the same order.
func showTheSame(t *testing.T, a, b []api.Stroke, damage []api.Rect, s api.Size) {
	t.Helper()
	for _, p := range modelPlaces(api.Rect{Size: s}, func(p api.Point) bool { return !modelIn(damage, p) }) {
		if x, y := modelShown(a, p), modelShown(b, p); !slices.Equal(x, y) {
			t.Fatalf("%v, %v: at %v, which is not in %v, %v and %v", a, b, p, damage, x, y)
		}
	}
}

// thrownScreen has halves alone and together.
func thrownScreen(r *rand.Rand, s api.Size) api.Screen {
	l := make([]api.Cell, s.W*s.H)
	for i := range l {
		left, right := halves(thrownColour(r), thrownColour(r))
		l[i] = pick(r, left, right, api.Cell{Rune: 'a', Colour: thrownColour(r), Back: thrownColour(r)}, api.Cell{Rune: 'b'}, bare)
	}
	return api.Screen{Size: s, Cells: l}
}

// P17.2: screens of any cells, mended in rectangles by chance: cell by cell, and by a list that is cut to them.
func TestThrownMend(t *testing.T) {
	r := rand.New(rand.NewSource(173))
	for range 3000 {
		s := thrownScreen(r, size(r.Intn(8), r.Intn(6)))
		l := thrownList(r, r.Intn(9))
		var q []api.Rect
		for range r.Intn(5) {
			q = append(q, pick(r, thrownRect(r), thrownRect(r), rect(-side, r.Intn(5), side+r.Intn(5), 1), api.Rect{}))
		}
		want := modelMend(s, l, q)
		mended(t, s, l, q, want)
		cut, e := list.Within(l, q)
		if e != api.OK {
			t.Fatal(e)
		}
		wiped := api.Screen{Size: s.Size, Cells: slices.Clone(s.Cells)}
		for _, p := range modelPlaces(api.Rect{Size: s.Size}, func(p api.Point) bool { return modelIn(q, p) }) {
			wiped.Cells[p.Y*s.Size.W+p.X] = bare
		}
		if got, e := cells.Draw(wiped, cut); !alike(got, want) || e != api.OK {
			t.Errorf("%v, %v, %v: %v, %d, not %v", s, l, q, got, e, want)
		}
		if t.Failed() {
			t.FailNow()
		}
	}
}

// P17.3: screens of any cells, some of which are changed.
func TestThrownChanged(t *testing.T) {
	r := rand.New(rand.NewSource(174))
	for range 4000 {
		s := size(r.Intn(9), r.Intn(9))
		a, b := thrownScreen(r, s), thrownScreen(r, s)
		for i := range b.Cells {
			switch {
			case r.Intn(3) == 0:
				b.Cells[i] = a.Cells[i]
			case i >= s.W && r.Intn(3) > 0: // like above, so that there are bands
				b.Cells[i] = a.Cells[i]
				if a.Cells[i-s.W] != b.Cells[i-s.W] {
					b.Cells[i] = api.Cell{Rune: 'x'}
				}
			}
		}
		want := modelChanged(a, b)
		unlike(t, a, b, want...)
		unlike(t, a, a)
		if t.Failed() || region.Check(want) != api.OK {
			t.Fatal(want)
		}
	}
}

// P17.1, P17.4: longer lists, of few strokes that come again and again.
func TestThrownAgainAndAgain(t *testing.T) {
	r := rand.New(rand.NewSource(175))
	for range 2000 {
		few := thrownList(r, 3)
		if few = slices.DeleteFunc(few, func(s api.Stroke) bool { return s.Kind > api.Write }); len(few) == 0 {
			continue
		}
		throw := func(n int) []api.Stroke {
			var l []api.Stroke
			for range n {
				l = append(l, pick(r, few...))
			}
			return l
		}
		a, b := throw(r.Intn(20)), throw(r.Intn(20))
		if r.Intn(2) == 0 {
			head, tail := throw(r.Intn(6)), throw(r.Intn(6))
			a, b = slices.Concat(head, a[:len(a)/4], tail), slices.Concat(head, b[:len(b)/4], tail)
		}
		differ(t, a, b, modelOf(a, b)...)
		moved(t, a, b, modelNodes(a, b)...)
		if t.Failed() {
			t.FailNow()
		}
	}
}

// R1: calls of what makes no sense end, and do not panic.
func TestAnything(t *testing.T) {
	r := rand.New(rand.NewSource(176))
	number := func() int { return pick(r, 0, 1, -1, 2, side, -side, side+1, 1<<20, -1<<63, 1<<63-1, r.Intn(40)-20) }
	anyList := func() []api.Stroke {
		var l []api.Stroke
		for range r.Intn(4) {
			l = append(l, api.Stroke{Kind: uint8(r.Intn(7)), Rect: rect(number(), number(), number(), number()), Colour: thrownColour(r), Text: pick(r, "", "", "x"), Node: number()})
		}
		return l
	}
	for range 20000 {
		a, b := anyList(), anyList()
		want := firstOf(list.Check(a), list.Check(b))
		if got, e := Of(a, b); e != want || e != api.OK && got != nil {
			t.Fatalf("Of(%v, %v): %v, %d; %d", a, b, got, e, want)
		}
		if got, e := Nodes(a, b); e != want || e != api.OK && got != nil {
			t.Fatalf("Nodes(%v, %v): %v, %d; %d", a, b, got, e, want)
		}
		s := api.Screen{Size: size(number(), number()), Cells: pick(r, nil, []api.Cell{bare}, []api.Cell{bare, bare}, []api.Cell{{}})}
		q := rects(rect(number(), number(), number(), number()), rect(number(), 0, 1, number()))
		_, wrong := region.Area(q)
		want = firstOf(cells.Check(s), list.Check(a), wrong)
		if got, e := Mend(s, a, q); e != want || e != api.OK && !isZero(got) {
			t.Fatalf("Mend(%v, %v, %v): %v, %d; %d", s, a, q, got, e, want)
		}
		if got, e := Changed(s, blanks(t, size(1, 1))); e == api.OK && s.Size != size(1, 1) || e != api.OK && (e != api.ErrCell || got != nil) {
			t.Fatalf("Changed(%v): %v, %d", s, got, e)
		}
	}
}
