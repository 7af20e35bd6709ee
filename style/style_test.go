package style

import (
	"math"
	"math/rand"
	"reflect"
	"slices"
	"testing"

	"casement/api"
)

var (
	red   = api.Colour{R: 255, A: 255}
	green = api.Colour{G: 255, A: 255}
	blue  = api.Colour{B: 255, A: 255}
	white = api.Colour{R: 255, G: 255, B: 255, A: 255}
)

// chapterRules are the rules R of the chapter's examples.
func chapterRules() []api.Rule {
	return []api.Rule{
		{Look: api.Look{Has: 1, Colour: red}},
		{Kind: api.Button, Look: api.Look{Has: 1, Colour: green}},
		{Class: "big", Look: api.Look{Has: 9, Colour: blue, Pad: 2}},
		{State: api.Focused, Look: api.Look{Has: 2, Back: white}},
		{Kind: api.Button, Look: api.Look{Has: 8, Pad: 1}},
	}
}

func TestOrder(t *testing.T) {
	if got := mustOrder(t, chapterRules()); !slices.Equal(got, []int{0, 1, 4, 2, 3}) {
		t.Errorf("Order of the chapter's rules = %v", got)
	}
	// From the strongest to the weakest: bits ahead of a class, a class ahead of a kind.
	l := []api.Rule{
		{State: 15}, {State: 7, Class: "a", Kind: 1}, {State: 13}, {State: 6, Class: "a", Kind: 1}, {State: 9, Class: "a"}, {State: 3, Kind: 1}, {State: 12},
		{State: 8, Class: "a", Kind: 1}, {State: 1, Class: "a"}, {State: 4, Kind: 10}, {State: 2}, {Class: "a", Kind: 1}, {Class: "a"}, {Kind: 1}, {},
	}
	want := []int{14, 13, 12, 11, 10, 9, 8, 7, 6, 5, 4, 3, 2, 1, 0}
	if got := mustOrder(t, l); !slices.Equal(got, want) {
		t.Errorf("Order of falling rules = %v", got)
	}
	slices.Reverse(l)
	slices.Reverse(want)
	if got := mustOrder(t, l); !slices.Equal(got, want) {
		t.Errorf("Order of rising rules = %v", got)
	}
}

// TestOrderOfEqual: what a state, class or kind is, does not count; nor do looks: the later one is stronger.
func TestOrderOfEqual(t *testing.T) {
	for _, l := range [][]api.Rule{
		{{State: 8}, {State: 1}, {State: 4}, {State: 2}},
		{{State: 12}, {State: 3}, {State: 9}, {State: 6}},
		{{Class: "z"}, {Class: "a"}, {Class: "aaaaaa"}, {Class: "z"}},
		{{Kind: 10}, {Kind: 1}, {Kind: 9}, {Kind: 1}},
		{{Kind: 9, Class: "b", State: 9}, {Kind: 1, Class: "aa", State: 6}, {Kind: 9, Class: "a", State: 3}},
		{{Look: api.Look{Has: 15, Pad: 9}}, {}, {Look: api.Look{Has: 1}}, {}},
		make([]api.Rule, api.MaxRules),
	} {
		got := mustOrder(t, l)
		if !slices.IsSorted(got) || len(got) != len(l) {
			t.Errorf("Order(%v) = %v", l, got)
		}
	}
	// Many of a few strengths: a sort that is not stable would mix them.
	l := make([]api.Rule, api.MaxRules)
	for n := range l {
		l[n] = api.Rule{State: uint8(n * 7 % 16), Kind: uint8(n * 3 % 11)}
	}
	if got, want := mustOrder(t, l), modelOrder(l); !slices.Equal(got, want) {
		t.Errorf("Order of many = %v, want %v", got, want)
	}
}

// TestStronger: of each two rules that hold, either way round, Look and Which take the stronger one.
func TestStronger(t *testing.T) {
	a := ask{kind: 2, class: "a b", state: 15}
	var rules []api.Rule
	for _, kind := range []uint8{0, 2} {
		for _, class := range []string{"", "a", "b"} {
			for state := range uint8(16) {
				rules = append(rules, api.Rule{Kind: kind, Class: class, State: state})
			}
		}
	}
	for _, one := range rules {
		for _, other := range rules {
			one.Look = api.Look{Has: 15, Colour: red, Back: red, Border: true, Pad: 1}
			other.Look = api.Look{Has: 15, Colour: blue, Back: green, Pad: 2}
			l := []api.Rule{one, other}
			win := 0
			if modelStronger(l, 1, 0) {
				win = 1
			}
			if got := mustOrder(t, l); !slices.Equal(got, []int{1 - win, win}) {
				t.Fatalf("Order(%v) = %v", l, got)
			}
			if got := mustLook(t, l, a); got != l[win].Look {
				t.Fatalf("Look(%v) = %v", l, got)
			}
			for _, field := range []uint8{1, 2, 4, 8} {
				if got := mustWhich(t, l, a, field); got != win {
					t.Fatalf("Which(%v, %d) = %d", l, field, got)
				}
			}
		}
	}
}

func TestLook(t *testing.T) {
	for _, c := range []struct {
		a    ask
		want api.Look
	}{
		{ask{api.Button, "", 0}, api.Look{Has: 9, Colour: green, Pad: 1}},
		{ask{api.Label, "", 0}, api.Look{Has: 1, Colour: red}},
		{ask{api.Button, "small big", api.Focused}, api.Look{Has: 11, Colour: blue, Back: white, Pad: 2}},
		{ask{77, "big ", 0}, api.Look{Has: 9, Colour: blue, Pad: 2}},
		{ask{api.Label, "bigger", 0}, api.Look{Has: 1, Colour: red}},
		{ask{0, "", 0}, api.Look{Has: 1, Colour: red}},
		{ask{0, "", 255}, api.Look{Has: 3, Colour: red, Back: white}},
		{ask{api.Label, "", 0xfe}, api.Look{Has: 1, Colour: red}},
		{ask{api.Label, "\xff  big", 0x11}, api.Look{Has: 11, Colour: blue, Back: white, Pad: 2}},
	} {
		if got := mustLook(t, chapterRules(), c.a); got != c.want {
			t.Errorf("Look by %v = %v, want %v", c.a, got, c.want)
		}
	}
	// What a stronger rule tells as zero is told all the same.
	l := []api.Rule{
		{Kind: 1, Look: api.Look{Has: 15}},
		{Look: api.Look{Has: 15, Colour: red, Back: white, Border: true, Pad: 7}},
	}
	if got := mustLook(t, l, ask{kind: 1}); got != l[0].Look {
		t.Errorf("Look of zeros that are told = %v", got)
	}
	if got := mustLook(t, l, ask{kind: 2}); got != l[1].Look {
		t.Errorf("Look of the other kind = %v", got)
	}
}

func TestWhich(t *testing.T) {
	for _, c := range []struct {
		a     ask
		field uint8
		want  int
	}{
		{ask{api.Button, "big", 0}, 1, 2}, {ask{api.Button, "", 0}, 8, 4}, {ask{api.Label, "", 0}, 4, -1},
		{ask{api.Button, "", 0}, 1, 1}, {ask{api.Label, "", 0}, 1, 0}, {ask{api.Label, "", 0}, 2, -1}, {ask{api.Label, "", 1}, 2, 3},
		{ask{api.Label, "", 0}, 8, -1}, {ask{77, " big", 3}, 8, 2},
	} {
		if got := mustWhich(t, chapterRules(), c.a, c.field); got != c.want {
			t.Errorf("Which by %v of %d = %d, want %d", c.a, c.field, got, c.want)
		}
	}
	for field := range 256 {
		want := api.ErrArg
		if field == 1 || field == 2 || field == 4 || field == 8 {
			want = api.OK
		}
		n, e := Which(chapterRules(), api.Label, "", 0, uint8(field))
		if e != want || e != api.OK && n != 0 {
			t.Errorf("Which of the field %d = %d, %d", field, n, int(e))
		}
		if _, e = Which([]api.Rule{{Kind: 11}}, api.Label, "", 0, uint8(field)); e != api.ErrRule {
			t.Errorf("Which of the field %d, of rules that may not be: %d", field, int(e))
		}
		if _, e = Which(make([]api.Rule, 257), api.Label, "", 0, uint8(field)); e != api.ErrMany {
			t.Errorf("Which of the field %d, of too many rules: %d", field, int(e))
		}
	}
}

// TestAgainstModel holds thrown rules against the model, and what P5.7 says of them.
func TestAgainstModel(t *testing.T) {
	dice := rand.New(rand.NewSource(5))
	all := asks()
	for i := range 400 {
		l := goodRules(dice, i%24)
		order := mustOrder(t, l)
		if want := modelOrder(l); !slices.Equal(order, want) {
			t.Fatalf("Order(%v) = %v, want %v", l, order, want)
		}
		orderFollows(t, l, order)
		for range 40 {
			a := all[dice.Intn(len(all))]
			got := mustLook(t, l, a)
			if want := modelLook(l, a.kind, a.class, a.state); got != want {
				t.Fatalf("Look(%v, %v) = %v, want %v", l, a, got, want)
			}
			lookFollows(t, l, order, a, got)
			whichFollows(t, l, a, got)
		}
	}
}

// orderFollows: each number once, and each rule stronger than all ahead of it.
func orderFollows(t *testing.T, l []api.Rule, order []int) {
	t.Helper()
	counts := make([]int, len(l))
	for at, n := range order {
		counts[n]++
		for _, weaker := range order[:at] {
			if !modelStronger(l, n, weaker) {
				t.Fatalf("Order(%v) = %v: %d is not stronger than %d", l, order, n, weaker)
			}
		}
	}
	if slices.ContainsFunc(counts, func(n int) bool { return n != 1 }) {
		t.Fatalf("Order(%v) = %v", l, order)
	}
}

// lookFollows: rules that don't hold may be left out, and the look of all is the strongest one's with that of the others beneath.
func lookFollows(t *testing.T, l []api.Rule, order []int, a ask, got api.Look) {
	t.Helper()
	var some []api.Rule
	for _, r := range l {
		if modelHolds(r, a.kind, a.class, a.state) {
			some = append(some, r)
		}
	}
	if k := mustLook(t, some, a); k != got {
		t.Fatalf("Look(%v, %v) = %v, of those that hold alone %v", l, a, got, k)
	}
	var chain api.Look
	for _, n := range slices.Backward(order) {
		if modelHolds(l[n], a.kind, a.class, a.state) {
			chain = Under(chain, l[n].Look)
		}
	}
	if chain != got {
		t.Fatalf("Look(%v, %v) = %v, by Under %v", l, a, got, chain)
	}
	if len(some) == 0 {
		return
	}
	sorted := mustOrder(t, some)
	top := sorted[len(sorted)-1]
	others := slices.Delete(slices.Clone(some), top, top+1)
	if k := Under(some[top].Look, mustLook(t, others, a)); k != got {
		t.Fatalf("Look(%v, %v) = %v, the strongest one's above the others' is %v", l, a, got, k)
	}
}

// whichFollows: the model's rule, which holds and says just what the look says.
func whichFollows(t *testing.T, l []api.Rule, a ask, look api.Look) {
	t.Helper()
	for _, field := range []uint8{1, 2, 4, 8} {
		n := mustWhich(t, l, a, field)
		if want := modelWhich(l, a.kind, a.class, a.state, field); n != want {
			t.Fatalf("Which(%v, %v, %d) = %d, want %d", l, a, field, n, want)
		}
		if (n >= 0) != (look.Has&field != 0) {
			t.Fatalf("Which(%v, %v, %d) = %d, and Look tells %d", l, a, field, n, look.Has)
		}
		if n < 0 {
			continue
		}
		if !modelHolds(l[n], a.kind, a.class, a.state) {
			t.Fatalf("Which(%v, %v, %d) = %d, which does not hold", l, a, field, n)
		}
		rest := api.Look{Has: 15 - field} // beneath it this thing alone shows
		if x, y := Under(rest, l[n].Look), Under(rest, look); x != y {
			t.Fatalf("Which(%v, %v, %d) = %d, which says %v, and not %v", l, a, field, n, x, y)
		}
	}
}

func TestUnder(t *testing.T) {
	full := api.Look{Has: 15, Colour: red, Back: white, Border: true, Pad: 7}
	other := api.Look{Has: 15, Colour: blue, Back: green, Pad: 9}
	r := chapterRules()
	for _, c := range []struct{ a, b, want api.Look }{
		{r[2].Look, r[0].Look, api.Look{Has: 9, Colour: blue, Pad: 2}},
		{r[0].Look, r[2].Look, api.Look{Has: 9, Colour: red, Pad: 2}},
		{r[3].Look, r[4].Look, api.Look{Has: 10, Back: white, Pad: 1}},
		{full, other, full}, {other, full, other},
		{full, api.Look{}, full}, {api.Look{}, full, full}, {api.Look{}, api.Look{}, api.Look{}},
		{api.Look{Has: 15}, full, api.Look{Has: 15}}, // told as zero is told
		{api.Look{Has: 4}, full, api.Look{Has: 15, Colour: red, Back: white, Pad: 7}},
		{api.Look{Has: 8}, full, api.Look{Has: 15, Colour: red, Back: white, Border: true}},
		{api.Look{Has: 1}, full, api.Look{Has: 15, Back: white, Border: true, Pad: 7}},
		{api.Look{Has: 2}, full, api.Look{Has: 15, Colour: red, Border: true, Pad: 7}},
		// Looks that may not be: what is not told does not count, nor do bits beyond the four.
		{api.Look{Colour: red, Back: white, Border: true, Pad: 7}, api.Look{Colour: blue, Back: green, Border: true, Pad: 9}, api.Look{}},
		{api.Look{Has: 240, Pad: 3}, api.Look{Has: 24, Pad: -5}, api.Look{Has: 8, Pad: -5}},
		{api.Look{Has: 255, Pad: math.MaxInt}, full, api.Look{Has: 15, Pad: math.MaxInt}},
		{api.Look{Has: 16}, api.Look{Has: 32}, api.Look{}},
	} {
		if got := Under(c.a, c.b); got != c.want {
			t.Errorf("Under(%v, %v) = %v, want %v", c.a, c.b, got, c.want)
		}
	}
}

// TestUnderFollows: all pairs of Has against the model; a look that tells all; any brackets.
func TestUnderFollows(t *testing.T) {
	dice := rand.New(rand.NewSource(58))
	for x := range 256 {
		for y := range 256 {
			a, b, c := anyLook(dice), anyLook(dice), anyLook(dice)
			a.Has, b.Has = uint8(x), uint8(y)
			if got, want := Under(a, b), modelUnder(a, b); got != want {
				t.Fatalf("Under(%v, %v) = %v, want %v", a, b, got, want)
			}
			if left, right := Under(Under(a, b), c), Under(a, Under(b, c)); left != right {
				t.Fatalf("Under of %v, %v, %v = %v, in other brackets %v", a, b, c, left, right)
			}
			a.Has = 15
			if got := Under(a, b); got != a {
				t.Fatalf("Under(%v, %v) = %v, of a look that tells all", a, b, got)
			}
		}
	}
}

func TestUsual(t *testing.T) {
	want := []api.Rule{
		{Kind: 0, State: 0, Look: api.Look{Has: 3, Colour: api.Colour{R: 0, G: 0, B: 0, A: 255}, Back: api.Colour{R: 255, G: 255, B: 255, A: 255}}},
		{Kind: 2, State: 0, Look: api.Look{Has: 12, Border: true, Pad: 1}},
		{Kind: 3, State: 0, Look: api.Look{Has: 4, Border: true}},
		{Kind: 0, State: 1, Look: api.Look{Has: 2, Back: api.Colour{R: 204, G: 221, B: 255, A: 255}}},
		{Kind: 0, State: 4, Look: api.Look{Has: 2, Back: api.Colour{R: 153, G: 187, B: 255, A: 255}}},
		{Kind: 0, State: 8, Look: api.Look{Has: 1, Colour: api.Colour{R: 136, G: 136, B: 136, A: 255}}},
	}
	got := Usual()
	if !slices.Equal(got, want) {
		t.Errorf("Usual = %v", got)
	}
	if e := Check(got); e != api.OK {
		t.Errorf("Check of Usual = %d", int(e))
	}
	// A pressed, focused button that is barred: of the two backs the later one wins.
	k := mustLook(t, got, ask{kind: 2, state: 13})
	if k != (api.Look{Has: 15, Colour: want[5].Look.Colour, Back: want[4].Look.Back, Border: true, Pad: 1}) {
		t.Errorf("Look of Usual = %v", k)
	}
}

// TestMemory: what is handed in stays, its spare room too; what is answered is new.
func TestMemory(t *testing.T) {
	dice := rand.New(rand.NewSource(56))
	whole := goodRules(dice, 40)
	slices.Reverse(whole)
	kept := slices.Clone(whole)
	l := whole[:30]
	bad := append(slices.Clone(l), api.Rule{Kind: 11})
	keptBad := slices.Clone(bad)
	for _, a := range asks() {
		mustLook(t, l, a)
		mustWhich(t, l, a, 1)
		Look(bad, a.kind, a.class, a.state)
	}
	Check(l)
	Order(bad)
	order := mustOrder(t, l)
	if !reflect.DeepEqual(whole, kept) || !reflect.DeepEqual(bad, keptBad) {
		t.Error("the rules that were handed in changed")
	}
	again := mustOrder(t, l)
	for n := range order {
		order[n] = -7
	}
	if slices.Contains(again, -7) || slices.Contains(mustOrder(t, l), -7) {
		t.Error("two answers of Order share memory")
	}
	one, other := Usual(), Usual()
	for n := range one {
		one[n] = api.Rule{Kind: 11}
	}
	if Check(other) != api.OK || Check(Usual()) != api.OK {
		t.Error("two answers of Usual share memory")
	}
}

// TestNothing: without rules, without rules that hold, without things that are told.
func TestNothing(t *testing.T) {
	for _, l := range [][]api.Rule{nil, {}, make([]api.Rule, 3)} {
		if e := Check(l); e != api.OK {
			t.Errorf("Check(%v) = %d", l, int(e))
		}
		if order := mustOrder(t, l); len(order) != len(l) {
			t.Errorf("Order(%v) = %v", l, order)
		}
		for _, a := range asks() {
			if k := mustLook(t, l, a); k != (api.Look{}) {
				t.Errorf("Look(%v, %v) = %v", l, a, k)
			}
			for _, field := range []uint8{1, 2, 4, 8} {
				if n := mustWhich(t, l, a, field); n != -1 {
					t.Errorf("Which(%v, %v, %d) = %d", l, a, field, n)
				}
			}
		}
		if n, e := Which(l, 1, "", 0, 0); n != 0 || e != api.ErrArg {
			t.Errorf("Which(%v) of no field = %d, %d", l, n, int(e))
		}
	}
	full := api.Look{Has: 15, Colour: red, Back: white, Border: true, Pad: 7}
	l := []api.Rule{{Kind: 3, Look: full}, {Class: "a", Look: full}, {State: 2, Look: full}}
	if k := mustLook(t, l, ask{kind: 2, class: "b", state: 1}); k != (api.Look{}) {
		t.Errorf("Look of rules that don't hold = %v", k)
	}
	if n := mustWhich(t, l, ask{kind: 2, class: "b", state: 1}, 1); n != -1 {
		t.Errorf("Which of rules that don't hold = %d", n)
	}
}
