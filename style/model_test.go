package style

import (
	"math"
	"math/rand"
	"strings"
	"testing"
	"unicode/utf8"

	"casement/api"
)

// The model says what the chapter says, word by word; the tests hold all calls against it.

func modelLookMayBe(k api.Look) bool {
	if k.Has > 15 || k.Pad < 0 || k.Pad > 16384 {
		return false
	}
	told := func(bit uint8) bool { return k.Has/bit%2 == 1 }
	none := api.Colour{}
	return (told(1) || k.Colour == none) && (told(2) || k.Back == none) && (told(4) || !k.Border) && (told(8) || k.Pad == 0)
}

func modelRuleMayBe(r api.Rule) bool {
	if r.Kind > 10 || r.State > 15 || len(r.Class) > 64 || !utf8.ValidString(r.Class) {
		return false
	}
	for i := range len(r.Class) {
		if r.Class[i] == 32 {
			return false
		}
	}
	return modelLookMayBe(r.Look)
}

func modelCheck(l []api.Rule) api.Errno {
	if len(l) > 256 {
		return api.ErrMany
	}
	for _, r := range l {
		if !modelRuleMayBe(r) {
			return api.ErrRule
		}
	}
	return api.OK
}

func modelClasses(text string) []string {
	var words []string
	word := ""
	for i := range len(text) {
		if text[i] != 32 {
			word += text[i : i+1]
			continue
		}
		if word != "" {
			words = append(words, word)
		}
		word = ""
	}
	if word != "" {
		words = append(words, word)
	}
	return words
}

func modelHolds(r api.Rule, kind uint8, class string, state uint8) bool {
	if r.Kind != 0 && r.Kind != kind {
		return false
	}
	for bit := uint8(1); bit <= 8; bit *= 2 {
		if r.State/bit%2 == 1 && state/bit%2 == 0 {
			return false
		}
	}
	if r.Class == "" {
		return true
	}
	for _, w := range modelClasses(class) {
		if w == r.Class {
			return true
		}
	}
	return false
}

func modelBits(state uint8) int {
	n := 0
	for ; state > 0; state /= 2 {
		n += int(state % 2)
	}
	return n
}

// modelStronger tells whether the rule i is stronger than the rule j, which is another one.
func modelStronger(l []api.Rule, i, j int) bool {
	a, b := l[i], l[j]
	if modelBits(a.State) != modelBits(b.State) {
		return modelBits(a.State) > modelBits(b.State)
	}
	if (a.Class != "") != (b.Class != "") {
		return a.Class != ""
	}
	if (a.Kind != 0) != (b.Kind != 0) {
		return a.Kind != 0
	}
	return i > j
}

// modelOrder puts each rule behind as many as are weaker.
func modelOrder(l []api.Rule) []int {
	order := make([]int, len(l))
	for i := range l {
		weaker := 0
		for j := range l {
			if i != j && modelStronger(l, i, j) {
				weaker++
			}
		}
		order[weaker] = i
	}
	return order
}

func modelWhich(l []api.Rule, kind uint8, class string, state uint8, field uint8) int {
	best := -1
	for n, r := range l {
		if !modelHolds(r, kind, class, state) || r.Look.Has/field%2 == 0 {
			continue
		}
		if best < 0 || modelStronger(l, n, best) {
			best = n
		}
	}
	return best
}

func modelLook(l []api.Rule, kind uint8, class string, state uint8) api.Look {
	var k api.Look
	if n := modelWhich(l, kind, class, state, 1); n >= 0 {
		k.Has, k.Colour = k.Has+1, l[n].Look.Colour
	}
	if n := modelWhich(l, kind, class, state, 2); n >= 0 {
		k.Has, k.Back = k.Has+2, l[n].Look.Back
	}
	if n := modelWhich(l, kind, class, state, 4); n >= 0 {
		k.Has, k.Border = k.Has+4, l[n].Look.Border
	}
	if n := modelWhich(l, kind, class, state, 8); n >= 0 {
		k.Has, k.Pad = k.Has+8, l[n].Look.Pad
	}
	return k
}

func modelUnder(a, b api.Look) api.Look {
	var k api.Look
	pick := func(bit uint8, set func(api.Look)) {
		switch {
		case a.Has/bit%2 == 1:
			set(a)
		case b.Has/bit%2 == 1:
			set(b)
		default:
			return
		}
		k.Has += bit
	}
	pick(1, func(of api.Look) { k.Colour = of.Colour })
	pick(2, func(of api.Look) { k.Back = of.Back })
	pick(4, func(of api.Look) { k.Border = of.Border })
	pick(8, func(of api.Look) { k.Pad = of.Pad })
	return k
}

// The dice throw rules and looks of which many are alike.

func anyColour(dice *rand.Rand) api.Colour {
	word := dice.Uint32()
	return api.Colour{R: uint8(word >> 24), G: uint8(word >> 16), B: uint8(word >> 8), A: uint8(word)}
}

// anyLook may tell more than four things, and have what it does not tell.
func anyLook(dice *rand.Rand) api.Look {
	pads := []int{0, 1, 2, -1, api.MaxSide, api.MaxSide + 1, math.MaxInt, math.MinInt}
	return api.Look{
		Has:    uint8(dice.Intn(256)),
		Colour: anyColour(dice),
		Back:   anyColour(dice),
		Border: dice.Intn(2) == 0,
		Pad:    pads[dice.Intn(len(pads))],
	}
}

// goodLook is one that may be.
func goodLook(dice *rand.Rand) api.Look {
	k := api.Look{Has: uint8(dice.Intn(16))}
	if k.Has&1 != 0 {
		k.Colour = anyColour(dice)
	}
	if k.Has&2 != 0 {
		k.Back = anyColour(dice)
	}
	if k.Has&4 != 0 {
		k.Border = dice.Intn(2) == 0
	}
	if k.Has&8 != 0 {
		k.Pad = dice.Intn(api.MaxSide + 1)
	}
	return k
}

func goodRules(dice *rand.Rand, count int) []api.Rule {
	classes := []string{"", "", "a", "ab", "b", "\t"}
	kinds := []uint8{0, 0, 1, 2, 10}
	states := []uint8{0, 0, 1, 2, 3, 8, 10, 15}
	l := make([]api.Rule, count)
	for n := range l {
		l[n] = api.Rule{
			Kind:  kinds[dice.Intn(len(kinds))],
			Class: classes[dice.Intn(len(classes))],
			State: states[dice.Intn(len(states))],
			Look:  goodLook(dice),
		}
	}
	return l
}

// ask is a part that rules are asked for.
type ask struct {
	kind  uint8
	class string
	state uint8
}

func asks() []ask {
	var all []ask
	for _, kind := range []uint8{0, 1, 2, 10, 11, 255} {
		for _, class := range []string{"", " ", "a", "ab", "b a", "  a  ab ", "abb aa", "a\tab", "\t", strings.Repeat("b ", 40)} {
			for _, state := range []uint8{0, 1, 2, 3, 8, 11, 15, 16, 0x13, 0xf0, 0xff} {
				all = append(all, ask{kind, class, state})
			}
		}
	}
	return all
}

func mustLook(t *testing.T, l []api.Rule, a ask) api.Look {
	t.Helper()
	k, e := Look(l, a.kind, a.class, a.state)
	if e != api.OK {
		t.Fatalf("Look(%v, %v): %v", l, a, int(e))
	}
	return k
}

func mustWhich(t *testing.T, l []api.Rule, a ask, field uint8) int {
	t.Helper()
	n, e := Which(l, a.kind, a.class, a.state, field)
	if e != api.OK {
		t.Fatalf("Which(%v, %v, %d): %v", l, a, field, int(e))
	}
	return n
}

func mustOrder(t *testing.T, l []api.Rule) []int {
	t.Helper()
	order, e := Order(l)
	if e != api.OK {
		t.Fatalf("Order(%v): %v", l, int(e))
	}
	return order
}
