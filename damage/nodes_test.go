package damage

import (
	"slices"
	"testing"

	"casement/api"
)

// P17.4: no strokes in one list, in the other one, in both; lists that are alike.
func TestNodesOfNothing(t *testing.T) {
	f, g, x, _, _ := chapter()
	moved(t, nil, nil)
	moved(t, of(), nil)
	moved(t, of(f, g, x), of(f, g, x))
	moved(t, of(f), nil, 1)
	moved(t, of(x, f, g), nil, 1, 2, 3)
}

// P17.4: the order does not count, neither of one node's strokes nor of all.
func TestNodesOrder(t *testing.T) {
	a, b, c, d := dots()
	moved(t, of(a, b), of(b, a))
	moved(t, of(a, b, c, d), of(d, b, a, c))
	a, b, c, d = by(1, a), by(2, b), by(1, c), by(2, d)
	moved(t, of(a, b, c, d), of(d, c, b, a))
	moved(t, of(a, b, c, d), of(c, a, d, b))
	moved(t, of(a, b, c), of(c, a, d), 2)
	moved(t, of(a, b, d), of(d, c, b), 1)
	differ(t, of(a, b, c, d), of(d, c, b, a), a.Rect, b.Rect, c.Rect, d.Rect)
}

// P17.4: how many times counts.
func TestNodesTimes(t *testing.T) {
	a, b, c, _ := dots()
	a, b, c = by(4, a), by(4, b), by(2, c)
	moved(t, of(a), of(a, a), 4)
	moved(t, of(a, a), of(a, a, a), 4)
	moved(t, of(a, a), of(a, a))
	moved(t, of(a, b, a), of(a, b, b), 4)
	moved(t, of(a, b, a), of(b, a, a))
	moved(t, of(a, b, a), of(b, a), 4)
	moved(t, of(a, c, a), of(c, a, c, a), 2)
	moved(t, of(a, a, c, c), of(c, a), 2, 4)
	moved(t, of(c, a, b, a), of(a, c, a, a, b), 4)
	moved(t, of(a, b, c), of(a, a, b, b, c, c), 2, 4)
	moved(t, of(a, b, a, b), of(a, a, a, b), 4)
}

// P17.4: two nodes' strokes are not one another's.
func TestNodesOfTheirOwn(t *testing.T) {
	a, b, c, _ := dots()
	moved(t, of(by(1, a), by(2, b)), of(by(2, a), by(1, b)), 1, 2)
	moved(t, of(by(1, a)), of(by(2, a)), 1, 2)
	moved(t, of(by(1, a), by(2, a)), of(by(2, a), by(1, a)))
	moved(t, of(by(1, a), by(2, a), by(3, c)), of(by(2, a), by(2, a), by(3, c)), 1, 2)
	moved(t, of(by(1, a), by(1, b)), of(by(1, a), by(2, b)), 1, 2)
}

// P17.4: nought is a node, and so is the greatest number; below nought there is none.
func TestNodesNumbers(t *testing.T) {
	a, b, _, _ := dots()
	moved(t, of(by(0, a)), nil, 0)
	moved(t, of(by(1<<20, a)), nil, 1<<20)
	moved(t, of(by(1<<20, a), by(0, b)), nil, 0, 1<<20)
	moved(t, of(by(0, a), by(1, b)), of(by(1, b)), 0)
	for _, n := range []int{-1, -1 << 20, -1 << 63, 1<<20 + 1, 1<<63 - 1} {
		for _, s := range of(by(n, a), by(n, frame(0, 0, 1, 1)), by(n, write(0, 0, 1, 1, "x")), by(n, clip(0, 0, 1, 1)), by(n, open())) {
			if got, e := Nodes(of(s), nil); got != nil || e != api.ErrArg {
				t.Errorf("Nodes of %d: %v, %d", n, got, e)
			}
			if got, e := Of(nil, of(a, s)); got != nil || e != api.ErrArg {
				t.Errorf("Of of %d: %v, %d", n, got, e)
			}
		}
	}
}

// P17.4: strokes that draw nothing are flat strokes, too.
func TestNodesOfWhatShowsNowhere(t *testing.T) {
	for _, s := range of(in(none, fill(0, 0, 2, 2)), in(none, frame(0, 0, 2, 2)), write(0, 0, 2, 2, ""), fill(3, 3, 0, 0), frame(3, 3, 0, 5), write(3, 3, 5, 0, "x")) {
		s = by(7, s)
		moved(t, of(s), nil, 7)
		moved(t, of(s), of(s))
		moved(t, of(s, s), of(s), 7)
		moved(t, within(rect(9, 9, 1, 1), s), nil, 7)
	}
	// empty ones are not the same, if their Rects are not
	moved(t, of(by(7, fill(3, 3, 0, 0))), of(by(7, fill(4, 3, 0, 0))), 7)
	// in clips that show nothing they show in the same rectangle
	f := by(7, fill(0, 0, 2, 2))
	moved(t, within(rect(5, 5, 1, 1), f), within(rect(6, 6, 1, 0), f))
	moved(t, within(rect(5, 5, 1, 1), f), of(f), 7)
}

// P17.4: where a stroke shows counts, not in which clip.
func TestNodesClips(t *testing.T) {
	f, g := by(1, fill(0, 0, 4, 4)), by(2, fill(0, 0, 4, 4))
	moved(t, of(f), within(rect(0, 0, 4, 4), f))
	moved(t, of(f), within(rect(0, 0, 4, 3), f), 1)
	moved(t, slices.Concat(within(rect(0, 0, 2, 2), f), of(g)), slices.Concat(of(f), within(rect(0, 0, 2, 2), g)), 1, 2)
	moved(t, slices.Concat(of(f), within(rect(0, 0, 2, 2), f)), slices.Concat(within(rect(0, 0, 2, 2), f), of(f)))
	moved(t, slices.Concat(of(f), within(rect(0, 0, 2, 2), f, g)), slices.Concat(within(rect(0, 0, 2, 2), g, f, f)), 1)
}

// P17.4: they rise, and each comes once, however many of its strokes are unlike.
func TestNodesRise(t *testing.T) {
	var a, b []api.Stroke
	var want []int
	for i := range 3000 {
		n := i * 7919 % 3000
		a = append(a, by(n, fill(i%50, 0, 1, 1)), by(n, fill(i%50, 1, 1, 1)), by(n, frame(i%50, 2, 1, 1)))
		if i%3 > 0 {
			b = append(b, a[len(a)-3:]...)
			continue
		}
		b = append(b, by(n, fill(i%50, 3, 1, 1)), a[len(a)-2])
		want = append(want, n)
	}
	slices.Sort(want)
	for range 3 {
		moved(t, a, b, want...)
	}
	slices.Reverse(b)
	moved(t, a, b, want...)
	if len(want) != 1000 {
		t.Error(len(want))
	}
}
