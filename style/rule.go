package style

import (
	"math/bits"
	"strings"
	"unicode/utf8"

	"casement/api"
)

// blank parts the classes of a text.
const blank = " "

// mostState has all bits that a state of a rule may have.
const mostState = api.Focused | api.Hovered | api.Pressed | api.Barred

// Check tells whether rules may be.
func Check(l []api.Rule) api.Errno {
	if len(l) > api.MaxRules {
		return api.ErrMany
	}
	for _, r := range l {
		if !ruleMayBe(r) {
			return api.ErrRule
		}
	}
	return api.OK
}

func ruleMayBe(r api.Rule) bool {
	return r.Kind <= api.Stack && classMayBe(r.Class) && r.State <= mostState && lookMayBe(r.Look)
}

func classMayBe(class string) bool {
	return len(class) <= api.MaxName && !strings.Contains(class, blank) && utf8.ValidString(class)
}

// lookMayBe: what a look does not tell must be zero, so that it is just what is left of it when that alone is taken which it tells.
func lookMayBe(look api.Look) bool {
	return look == take(api.Look{}, look, tellsAll) && look.Pad >= 0 && look.Pad <= api.MaxSide
}

// holds tells whether a rule is for parts of this kind, with these classes, in this state.
func holds(r api.Rule, kind uint8, class string, state uint8) bool {
	if r.Kind != 0 && r.Kind != kind {
		return false
	}
	missing := r.State
	missing &^= state
	return missing == 0 && (r.Class == "" || isAmong(r.Class, class))
}

// isAmong tells whether a class, which is not empty, is one of a text's.
func isAmong(class, text string) bool {
	for word := range strings.SplitSeq(text, blank) {
		if word == class {
			return true
		}
	}
	return false
}

// strength is greater for stronger rules; the place in the list parts those of which it is the same.
func strength(r api.Rule) int {
	n := bits.OnesCount8(r.State) << 2 // one bit more outweighs both that follow
	if r.Class != "" {
		n |= 2
	}
	if r.Kind != 0 {
		n |= 1
	}
	return n
}
