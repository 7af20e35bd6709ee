package cells

import (
	"math/rand"
	"slices"
	"testing"

	"casement/api"
)

// input is what the calls of the package are handed.
type input struct {
	a, b    api.Screen
	strokes []api.Stroke
	runs    []api.Run
	text    string
	at      api.Point
}

// answers are what all calls of the package answer on one input; the screens are those of Blank, Draw, Put and Read.
type answers struct {
	screens []api.Screen
	runs    []api.Run
	texts   [2]string
	cell    api.Cell
	errors  [9]api.Errno
}

func (in input) asked() answers {
	var a answers
	var blank, drawn, put, read api.Screen
	blank, a.errors[0] = Blank(in.a.Size, red)
	a.errors[1] = Check(in.a)
	drawn, a.errors[2] = Draw(in.a, in.strokes)
	a.cell, a.errors[3] = At(in.a, in.at)
	a.texts[0], a.errors[4] = Text(in.a)
	a.runs, a.errors[5] = Runs(in.a, in.b)
	put, a.errors[6] = Put(in.a, in.runs)
	a.texts[1], a.errors[7] = Escapes(in.runs)
	read, _, a.errors[8] = Read(in.a, in.text)
	a.screens = []api.Screen{blank, drawn, put, read}
	return a
}

func same(a, b answers) bool {
	return slices.EqualFunc(a.screens, b.screens, alike) && alikeRuns(a.runs, b.runs) && a.texts == b.texts && a.cell == b.cell && a.errors == b.errors
}

func copiedRuns(l []api.Run) []api.Run {
	all := slices.Clone(l)
	for i := range all {
		all[i].Cells = slices.Clone(all[i].Cells)
	}
	return all
}

func (a answers) kept() answers {
	a.screens = slices.Clone(a.screens)
	for i, s := range a.screens {
		a.screens[i].Cells = slices.Clone(s.Cells)
	}
	a.runs = copiedRuns(a.runs)
	return a
}

// roomy is a list with spare room, in which something stands.
func roomy[T any](l []T, spare T) []T {
	all := append(slices.Clone(l), spare, spare, spare)
	return all[:len(l)]
}

// wholeOf is a list with its spare room, as a copy.
func wholeOf[T any](l []T) []T { return slices.Clone(l[:cap(l)]) }

func overwrite[T any](l []T, with T) {
	for i := range l[:cap(l)] {
		l[:cap(l)][i] = with
	}
}

func (in input) roomy() input {
	in.a.Cells, in.b.Cells = roomy(in.a.Cells, plain('s')), roomy(in.b.Cells, plain('t'))
	in.strokes = roomy(in.strokes, fill(rect(0, 0, 9, 9), blue))
	in.runs = roomy(copiedRuns(in.runs), word(0, 0, "spare"))
	for i := range in.runs {
		in.runs[i].Cells = roomy(in.runs[i].Cells, plain('u'))
	}
	return in
}

// all is an input with all the spare room of its lists, as a copy.
func (in input) all() input {
	in.a.Cells, in.b.Cells, in.strokes, in.runs = wholeOf(in.a.Cells), wholeOf(in.b.Cells), wholeOf(in.strokes), wholeOf(in.runs)
	for i := range in.runs {
		in.runs[i].Cells = wholeOf(in.runs[i].Cells)
	}
	return in
}

func sameInput(a, b input) bool {
	return alike(a.a, b.a) && alike(a.b, b.b) && slices.Equal(a.strokes, b.strokes) && alikeRuns(a.runs, b.runs)
}

func (in input) spoil() {
	for _, r := range in.runs {
		overwrite(r.Cells, plain(0))
	}
	overwrite(in.runs, api.Run{})
	overwrite(in.a.Cells, plain('!'))
	overwrite(in.b.Cells, plain('?'))
	overwrite(in.strokes, open())
}

// thrownInput is one by chance, of which nothing is wrong.
func thrownInput(r *rand.Rand) input {
	a := thrownScreen(r, size(1+r.Intn(9), 1+r.Intn(5)))
	in := input{a: a, b: thrownNext(r, a), strokes: thrownList(r, r.Intn(9))}
	in.runs = modelRuns(a, thrownNext(r, a))
	in.text = modelEscapes(modelRuns(a, thrownNext(r, a)))
	in.at = point(r.Intn(a.Size.W), r.Intn(a.Size.H))
	return in
}

// P15.7: what is handed in stays, its spare room too, and is not kept: calls of a copy, when the first lists were written over since, answer the same.
func TestHandedInStays(t *testing.T) {
	r := rand.New(rand.NewSource(156))
	for range 1000 {
		first := thrownInput(r)
		in := first.roomy()
		before := in.all()
		got := in.asked()
		if !sameInput(in.all(), before) {
			t.Fatalf("%v: changed to %v", before, in.all())
		}
		kept := got.kept()
		in.spoil()
		if again := first.asked(); !same(got, kept) || !same(got, again) || got.errors != ([9]api.Errno{}) {
			t.Fatalf("%v: %v, then %v, and then %v", first, kept, got, again)
		}
	}
}

// P15.7: what is answered is the caller's: each list of it, written over with its spare room, changes neither what was handed in nor another answer, nor another run of the same one.
func TestAnsweredIsNew(t *testing.T) {
	r := rand.New(rand.NewSource(157))
	for range 1000 {
		in := thrownInput(r).roomy()
		before := in.all()
		want := in.asked().kept()
		for i := range want.screens {
			got := in.asked()
			overwrite(got.screens[i].Cells, plain('!'))
			got.screens[i] = want.screens[i]
			if !same(got, want) {
				t.Fatalf("%v: the screen %d shares memory", before, i)
			}
		}
		for i := range want.runs {
			got := in.asked()
			overwrite(got.runs[i].Cells, plain('!'))
			got.runs[i] = want.runs[i]
			if !same(got, want) {
				t.Fatalf("%v: the run %d shares memory", before, i)
			}
		}
		got := in.asked()
		overwrite(got.runs, api.Run{})
		if !sameInput(in.all(), before) || !same(in.asked(), want) {
			t.Fatalf("%v: what was handed in hangs on what was answered", before)
		}
	}
}

// P15.7: of calls that change nothing, too.
func TestAnsweredIsNewOfNothing(t *testing.T) {
	s := of("ab", "cd")
	drawn, _ := Draw(s, nil)
	put, _ := Put(s, nil)
	read, _, _ := Read(s, "")
	for _, x := range []api.Screen{drawn, put, read} {
		overwrite(x.Cells, plain('!'))
	}
	if !alike(s, of("ab", "cd")) {
		t.Errorf("%v", s)
	}
}

// P15.4, P15.7: two screens that share their cells, in part or wholly, are like where they do.
func TestSharedCells(t *testing.T) {
	row := of("abcabd").Cells
	a, b := screen(3, 1, row[:3]...), screen(3, 1, row[3:]...)
	if l, e := Runs(a, b); !alikeRuns(l, []api.Run{word(2, 0, "d")}) || e != api.OK {
		t.Errorf("%v, %d", l, e)
	}
	if l, e := Runs(a, a); len(l) > 0 || e != api.OK {
		t.Errorf("%v, %d", l, e)
	}
	// A run may be a piece of the screen's own cells.
	if got, e := Put(a, []api.Run{{At: point(0, 0), Cells: a.Cells[1:]}, {At: point(2, 0), Cells: a.Cells[:1]}}); !alike(got, of("bca")) || !alike(a, of("abc")) || e != api.OK {
		t.Errorf("%v, %d", got, e)
	}
}

// R2: calls made at the same time do not see one another.
func TestAtTheSameTime(t *testing.T) {
	in := thrownInput(rand.New(rand.NewSource(158)))
	want := in.asked()
	got := make(chan answers)
	for range 8 {
		go func() { got <- in.asked() }()
	}
	for range 8 {
		if one := <-got; !same(one, want) {
			t.Errorf("%v, not %v", one, want)
		}
	}
}
