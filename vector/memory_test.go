package vector

import (
	"math/rand"
	"slices"
	"strings"
	"testing"
	"unsafe"

	"casement/api"
)

// answers are what all calls of the package answer on one input.
type answers struct {
	strokes []api.Stroke
	size    api.Size
	screen  api.Screen
	texts   [3]string
	places  [3]int
	errors  [4]api.Errno
}

func ask(l []api.Stroke, s api.Size, text, plain, escaped string) answers {
	var a answers
	a.texts[0], a.errors[0] = Text(l, s)
	a.strokes, a.size, a.places[0], a.errors[1] = Read(text)
	a.screen, a.places[1], a.errors[2] = Screen(text, thin)
	a.texts[1] = Escape(plain)
	a.texts[2], a.places[2], a.errors[3] = Plain(escaped)
	return a
}

func same(a, b answers) bool {
	return slices.Equal(a.strokes, b.strokes) && a.size == b.size && a.screen.Size == b.screen.Size && slices.Equal(a.screen.Cells, b.screen.Cells) && a.texts == b.texts && a.places == b.places && a.errors == b.errors
}

func (a answers) kept() answers {
	a.strokes, a.screen.Cells = slices.Clone(a.strokes), slices.Clone(a.screen.Cells)
	return a
}

// P16.5: what is handed in stays, its spare room too, and is not kept.
func TestHandedInStays(t *testing.T) {
	r := rand.New(rand.NewSource(166))
	for range 1000 {
		l, s, plain := thrownList(r, r.Intn(9)), size(r.Intn(9), r.Intn(9)), thrownText(r)
		text, escaped := modelText(l, s), modelEscape(plain)
		spare := fill(rect(1, 2, 3, 4), red, 5)
		roomy := append(slices.Clone(l), spare, spare)
		want := ask(l, s, text, plain, escaped).kept()
		if got := ask(roomy[:len(l)], s, text, plain, escaped); !same(got, want) || got.errors != ([4]api.Errno{}) {
			t.Fatalf("%v: %v, then %v", l, want, got)
		}
		if !slices.Equal(roomy, append(slices.Clone(l), spare, spare)) {
			t.Fatalf("%v: changed to %v", l, roomy)
		}
		clear(roomy)
		if got := ask(l, s, text, plain, escaped); !same(got, want) {
			t.Fatalf("%v: %v, then %v", l, want, got)
		}
	}
}

// P16.5: what is answered is the caller's: written over with its spare room it changes no other answer.
func TestAnsweredIsNew(t *testing.T) {
	r := rand.New(rand.NewSource(167))
	for range 1000 {
		l, s, plain := thrownList(r, r.Intn(9)), size(r.Intn(9), r.Intn(9)), thrownText(r)
		text, escaped := modelText(l, s), modelEscape(plain)
		first := ask(l, s, text, plain, escaped)
		want := first.kept()
		second := ask(l, s, text, plain, escaped)
		clear(first.strokes[:cap(first.strokes)])
		clear(first.screen.Cells[:cap(first.screen.Cells)])
		if third := ask(l, s, text, plain, escaped); !same(second, want) || !same(third, want) {
			t.Fatalf("%v: %v, then %v and %v", l, want, second, third)
		}
	}
}

// apart tells whether two texts share no byte of memory.
func apart(a, b string) bool {
	from, other := uintptr(unsafe.Pointer(unsafe.StringData(a))), uintptr(unsafe.Pointer(unsafe.StringData(b)))
	return a == "" || b == "" || from+uintptr(len(a)) <= other || other+uintptr(len(b)) <= from
}

// P16.5: texts are new memory, too, also where nothing of them is escaped.
func TestTextsAreNew(t *testing.T) {
	for _, x := range []string{"a", "plain", strings.Repeat("long", 1000), "a b", "&"} {
		word := strings.Clone(x)
		escaped := Escape(word)
		// Texts of one byte that are made of bytes are the language's own, always the same one: what is handed in is a copy.
		handed := strings.Clone(escaped)
		plain, _, _ := Plain(handed)
		if plain != x || !apart(word, escaped) || !apart(handed, plain) {
			t.Errorf("%.20q: Escape or Plain hands on its argument", x)
		}
		l := []api.Stroke{write(rect(0, 0, 1, 1), word, red, red, 0), write(rect(0, 0, 1, 1), word, red, red, 0)}
		text, _ := Text(l, size(8, 3))
		got, _, _, e := Read(text)
		if e != api.OK || got[0].Text != x || got[1].Text != x {
			t.Fatalf("Read(%.200q): %d", text, e)
		}
		if !apart(text, word) || !apart(got[0].Text, text) || !apart(got[1].Text, text) {
			t.Errorf("%.20q: a text that is answered is a piece of the argument", x)
		}
	}
}

// R2: calls made at the same time do not see one another.
func TestAtTheSameTime(t *testing.T) {
	l, lines := all()
	want := ask(l, size(8, 3), whole(lines...), "a b", "a&20;b")
	got := make(chan answers)
	for range 8 {
		go func() { got <- ask(l, size(8, 3), whole(lines...), "a b", "a&20;b") }()
	}
	for range 8 {
		if one := <-got; !same(one, want) {
			t.Errorf("%v, not %v", one, want)
		}
	}
}
