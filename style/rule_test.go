package style

import (
	"math"
	"math/rand"
	"slices"
	"strings"
	"testing"

	"casement/api"
)

// told is what Check answers of rules; all calls with rules must answer it first.
func told(t *testing.T, l []api.Rule) api.Errno {
	t.Helper()
	e := Check(l)
	if want := modelCheck(l); e != want {
		t.Errorf("Check(%v) = %d, want %d", l, int(e), int(want))
	}
	order, ofOrder := Order(l)
	look, ofLook := Look(l, 0, "", 0)
	which, ofWhich := Which(l, 0, "", 0, 1)
	wrong, ofWrong := Which(l, 0, "", 0, 3) // a field that is none, beside rules that may not be
	if ofOrder != e || ofLook != e || ofWhich != e {
		t.Errorf("%v: Check %d, Order %d, Look %d, Which %d", l, int(e), int(ofOrder), int(ofLook), int(ofWhich))
	}
	if e == api.OK && ofWrong != api.ErrArg || e != api.OK && ofWrong != e {
		t.Errorf("%v: Check %d, Which of no field %d", l, int(e), int(ofWrong))
	}
	if wrong != 0 || e != api.OK && (len(order) != 0 || look != api.Look{} || which != 0) {
		t.Errorf("%v: beside an error %v, %v, %d, %d", l, order, look, which, wrong)
	}
	return e
}

// TestCheck holds P5.1, a rule at a time: alone, and as the last and the first one of several.
func TestCheck(t *testing.T) {
	look := func(k api.Look) api.Rule { return api.Rule{Look: k} }
	for _, c := range []struct {
		r    api.Rule
		want api.Errno
	}{
		{api.Rule{}, api.OK},
		{api.Rule{Kind: 1}, api.OK}, {api.Rule{Kind: 10}, api.OK},
		{api.Rule{Kind: 11}, api.ErrRule}, {api.Rule{Kind: 255}, api.ErrRule},

		{api.Rule{Class: "a"}, api.OK},
		{api.Rule{Class: strings.Repeat("x", 64)}, api.OK},
		{api.Rule{Class: strings.Repeat("x", 65)}, api.ErrRule},
		{api.Rule{Class: strings.Repeat("é", 32)}, api.OK},
		{api.Rule{Class: strings.Repeat("é", 32) + "x"}, api.ErrRule}, // bytes count, not runes
		{api.Rule{Class: "a b"}, api.ErrRule}, {api.Rule{Class: " "}, api.ErrRule},
		{api.Rule{Class: " a"}, api.ErrRule}, {api.Rule{Class: "a "}, api.ErrRule},
		{api.Rule{Class: "\t"}, api.OK}, {api.Rule{Class: "a\nb"}, api.OK}, {api.Rule{Class: "a\u00a0b"}, api.OK}, {api.Rule{Class: "\x00"}, api.OK},
		{api.Rule{Class: "\xff"}, api.ErrRule}, {api.Rule{Class: "a\xc3"}, api.ErrRule}, {api.Rule{Class: "\xed\xa0\x80"}, api.ErrRule},
		{api.Rule{Class: "\ufffd"}, api.OK}, {api.Rule{Class: "\U0010ffff"}, api.OK},

		{api.Rule{State: 15}, api.OK}, {api.Rule{State: 16}, api.ErrRule}, {api.Rule{State: 17}, api.ErrRule}, {api.Rule{State: 255}, api.ErrRule},

		{look(api.Look{Has: 15}), api.OK}, {look(api.Look{Has: 16}), api.ErrRule}, {look(api.Look{Has: 31}), api.ErrRule}, {look(api.Look{Has: 255}), api.ErrRule},
		{look(api.Look{Has: 8, Pad: -1}), api.ErrRule}, {look(api.Look{Has: 8}), api.OK},
		{look(api.Look{Has: 8, Pad: 16384}), api.OK}, {look(api.Look{Has: 8, Pad: 16385}), api.ErrRule},
		{look(api.Look{Has: 8, Pad: math.MaxInt}), api.ErrRule}, {look(api.Look{Has: 8, Pad: math.MinInt}), api.ErrRule},
		{look(api.Look{Has: 1, Pad: 1}), api.ErrRule}, {look(api.Look{Pad: -1}), api.ErrRule},

		{api.Rule{Kind: 10, Class: strings.Repeat("x", 64), State: 15, Look: api.Look{Has: 15, Colour: api.Colour{R: 1, G: 2, B: 3, A: 4}, Back: api.Colour{A: 255}, Border: true, Pad: 16384}}, api.OK},
	} {
		for _, l := range [][]api.Rule{{c.r}, {{}, {Kind: 2}, c.r}, {c.r, {}, {Class: "a"}}} {
			if e := told(t, l); e != c.want {
				t.Errorf("Check(%v) = %d, want %d", l, int(e), int(c.want))
			}
		}
	}
}

// TestCheckOfUntold: whatever Has tells beside it, a thing that it does not tell must be zero, to its last part.
func TestCheckOfUntold(t *testing.T) {
	for _, c := range []struct {
		bit  uint8
		look api.Look
	}{
		{1, api.Look{Colour: api.Colour{R: 1}}}, {1, api.Look{Colour: api.Colour{G: 1}}}, {1, api.Look{Colour: api.Colour{B: 1}}}, {1, api.Look{Colour: api.Colour{A: 1}}},
		{2, api.Look{Back: api.Colour{R: 1}}}, {2, api.Look{Back: api.Colour{G: 1}}}, {2, api.Look{Back: api.Colour{B: 1}}}, {2, api.Look{Back: api.Colour{A: 1}}},
		{4, api.Look{Border: true}},
		{8, api.Look{Pad: 1}}, {8, api.Look{Pad: 16384}},
	} {
		for has := range uint8(16) {
			c.look.Has = has
			want := api.ErrRule
			if has&c.bit != 0 {
				want = api.OK
			}
			if e := told(t, []api.Rule{{Look: c.look}}); e != want {
				t.Errorf("Check(%v) = %d, want %d", c.look, int(e), int(want))
			}
		}
	}
}

func TestCheckOfMany(t *testing.T) {
	most := make([]api.Rule, api.MaxRules, api.MaxRules+1)
	if e := told(t, most); e != api.OK {
		t.Errorf("Check of 256 = %d", int(e))
	}
	if e := told(t, most[:api.MaxRules+1]); e != api.ErrMany {
		t.Errorf("Check of 257 = %d", int(e))
	}
	for _, n := range []int{0, 100, api.MaxRules - 1} {
		l := slices.Clone(most)
		l[n].Kind = 11
		if e := told(t, l); e != api.ErrRule {
			t.Errorf("Check of 256, the rule %d of which may not be = %d", n, int(e))
		}
		if e := told(t, append(l, api.Rule{})); e != api.ErrMany { // the length comes first
			t.Errorf("Check of 257, the rule %d of which may not be = %d", n, int(e))
		}
	}
}

// TestCheckOfAny holds thrown rules, most of which may not be, against the model.
func TestCheckOfAny(t *testing.T) {
	dice := rand.New(rand.NewSource(51))
	classes := []string{"", "a", "a b", "\xc0", strings.Repeat("é", 32), strings.Repeat("é", 33)}
	good := 0
	for range 20000 {
		r := goodRules(dice, 1)[0]
		switch dice.Intn(6) {
		case 0:
			r.Kind = uint8(dice.Intn(14))
		case 1:
			r.State = uint8(dice.Intn(20))
		case 2:
			r.Class = classes[dice.Intn(len(classes))]
		case 3:
			r.Look = anyLook(dice)
		case 4:
			r.Look = anyLook(dice)
			r.Look.Has |= 15
		}
		if told(t, []api.Rule{{}, r}) == api.OK {
			good++
		}
	}
	if good < 5000 || good > 15000 {
		t.Errorf("%d of the rules may be: they tell little", good)
	}
}

// TestHolds: one rule, asked for by all kinds and states, and by texts of classes.
func TestHolds(t *testing.T) {
	look := api.Look{Has: 8, Pad: 3}
	shows := func(r api.Rule, a ask) bool {
		t.Helper()
		r.Look = look
		k := mustLook(t, []api.Rule{r}, a)
		if k != look && k != (api.Look{}) {
			t.Fatalf("Look of %v by %v = %v", r, a, k)
		}
		return k == look
	}
	for of := range uint8(11) {
		for kind := range 256 {
			if got, want := shows(api.Rule{Kind: of}, ask{kind: uint8(kind)}), of == 0 || int(of) == kind; got != want {
				t.Errorf("a rule of the kind %d holds for the kind %d: %v", of, kind, got)
			}
		}
	}
	for of := range uint8(16) {
		for state := range 256 {
			if got, want := shows(api.Rule{State: of}, ask{state: uint8(state)}), int(of)&state == int(of); got != want {
				t.Errorf("a rule of the state %d holds for the state %d: %v", of, state, got)
			}
		}
	}
	for _, c := range []struct {
		of, class string
		want      bool
	}{
		{"", "", true}, {"", " ", true}, {"", "big", true}, {"", "\xff", true},
		{"big", "big", true}, {"big", " big", true}, {"big", "big ", true}, {"big", "  big  ", true},
		{"big", "small big", true}, {"big", "big small", true}, {"big", "small  big  red", true}, {"big", "bigger big", true},
		{"big", "", false}, {"big", " ", false}, {"big", "bigger", false}, {"bigger", "big", false}, {"big", "abig", false}, {"big", "bi g", false},
		{"big", "Big", false}, {"big", "big\t", false}, {"big", "small\tbig", false}, {"big", "small\nbig", false}, {"big", "small\u00a0big", false},
		{"a\tb", "a\tb", true}, {"a\tb", "a b", false}, {"é", "e é", true}, {"é", "e\u0301", false},
		{"\ufffd", "\xff", false}, {"\ufffd", "\ufffd", true}, {"big", "\xff big \xff", true}, {"big", "big\xff", false},
		{"big", strings.Repeat("bigger ", 20000) + "big", true}, {"big", strings.Repeat("bigger ", 20000), false},
		{strings.Repeat("x", 64), strings.Repeat("x", 64), true}, {strings.Repeat("x", 64), strings.Repeat("x", 65), false},
	} {
		if got := shows(api.Rule{Class: c.of}, ask{class: c.class}); got != c.want {
			t.Errorf("a rule of the class %.20q holds for %.20q: %v", c.of, c.class, got)
		}
	}
	// All three must hold.
	r := api.Rule{Kind: 2, Class: "big", State: 5}
	for _, c := range []struct {
		a    ask
		want bool
	}{
		{ask{2, "big", 5}, true}, {ask{2, "a big", 255}, true},
		{ask{1, "big", 5}, false}, {ask{0, "big", 5}, false}, {ask{2, "bi", 5}, false}, {ask{2, "big", 4}, false}, {ask{2, "big", 0xfa}, false},
	} {
		if got := shows(r, c.a); got != c.want {
			t.Errorf("%v holds for %v: %v", r, c.a, got)
		}
	}
}
