package focus

import (
	"testing"

	"casement/api"
)

// step asks Next and Back of a node.
func step(t *testing.T, name string, s api.Spec, node, next, back int, is bool, want api.Errno) {
	t.Helper()
	if got, ok, e := Next(s, wide(), node); got != next || ok != is || e != want {
		t.Errorf("Next of %s, %d: %d, %v, %d; %d", name, node, got, ok, e, next)
	}
	if got, ok, e := Back(s, wide(), node); got != back || ok != is || e != want {
		t.Errorf("Back of %s, %d: %d, %v, %d; %d", name, node, got, ok, e, back)
	}
}

// P18.2: the chapter's examples, and all numbers of T.
func TestSteps(t *testing.T) {
	step(t, "T", tee(), -1, 3, 1, true, api.OK)
	step(t, "T", tee(), 3, 2, 1, true, api.OK)
	step(t, "T", tee(), 2, 1, 3, true, api.OK)
	step(t, "T", tee(), 1, 3, 2, true, api.OK)
	for _, node := range []int{0, 4, 5} { // a Box, a Label, an order below 0
		step(t, "T", tee(), node, 0, 0, false, api.ErrFocus)
	}
	for _, node := range []int{-2, -3, 6, 7, 9, -1 << 62, 1 << 62} {
		step(t, "T", tee(), node, 0, 0, false, api.ErrNode)
	}
	step(t, "a Label", label(""), -1, 0, 0, false, api.OK)
	step(t, "a Label", label(""), 0, 0, 0, false, api.ErrFocus)
	step(t, "a Label", label(""), 1, 0, 0, false, api.ErrNode)
	step(t, "a Label", label(""), -2, 0, 0, false, api.ErrNode)
}

// P18.2: where one alone can be focused, it is behind itself; of two each is both ahead of and behind the other one.
func TestFewSteps(t *testing.T) {
	step(t, "a Button", button(""), -1, 0, 0, true, api.OK)
	step(t, "a Button", button(""), 0, 0, 0, true, api.OK)
	alone := box(label(""), one(api.Field), hidden(button("")))
	step(t, "one of several", alone, -1, 2, 2, true, api.OK)
	step(t, "one of several", alone, 2, 2, 2, true, api.OK)
	step(t, "one of several", alone, 3, 0, 0, false, api.ErrFocus)
	two := box(button(""), ordered(button(""), 1))
	step(t, "two", two, -1, 2, 1, true, api.OK)
	step(t, "two", two, 1, 2, 2, true, api.OK)
	step(t, "two", two, 2, 1, 1, true, api.OK)
}

// P18.2: nodes that could be focused, but are not there, or are not shown.
func TestStepsOfWhatIsNotThere(t *testing.T) {
	s := box(button(""), hidden(button("")), wrapped(button(""), half()), wrapped(box(button("")), hide(api.Holds)), wrapped(label(""), focusing(0)), wrapped(button(""), hide(api.Focuses)))
	step(t, "halves and others", s, 1, 6, 6, true, api.OK)
	step(t, "halves and others", s, 6, 1, 1, true, api.OK)
	step(t, "halves and others", s, -1, 1, 6, true, api.OK)
	for _, node := range []int{0, 2, 3, 4, 5, 7} {
		step(t, "halves and others", s, node, 0, 0, false, api.ErrFocus)
	}
	away := scroll(0, 9, columns(button(""), thing(1, 20), button(""))) // the first one is scrolled away, the last one lies below
	step(t, "not shown", away, -1, 0, 4, true, api.OK)
	step(t, "not shown", away, 0, 2, 4, true, api.OK)
	step(t, "not shown", away, 2, 4, 0, true, api.OK)
	step(t, "not shown", away, 4, 0, 2, true, api.OK)
}

// P18.6: goes round and round, to and fro, whatever the rectangle.
func TestRounds(t *testing.T) {
	for _, s := range []api.Spec{button(""), tee(), box(tee(), scroll(0, 0, tee()), ordered(one(api.Field), greatest)), wrapped(stack(tee(), tee()), focusing(1))} {
		for _, r := range []api.Rect{wide(), {}, rect(-9, -9, 3, 3)} {
			goesRound(t, s, r)
		}
	}
}
