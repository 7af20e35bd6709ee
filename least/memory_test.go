package least

import (
	"math/rand"
	"slices"
	"testing"

	"casement/api"
)

// calls are all calls of the package on one input; what they answer, as lists.
func calls(n int, l []api.Bound, at []int) [][]int {
	solved, _ := Solve(n, l)
	loop, _ := Loop(n, l)
	tight, _ := Tight(n, l)
	great, _ := Most(n, l, 50)
	kept, _ := Keeps(at, l)
	return [][]int{solved, loop, tight, great, {kept}}
}

func same(a, b [][]int) bool {
	return slices.EqualFunc(a, b, func(x, y []int) bool { return slices.Equal(x, y) })
}

// P9.6: what is handed in stays, its spare room too, and is not kept: calls of a copy, and of what was changed since, answer the same as ever.
func TestHandedInStays(t *testing.T) {
	r := rand.New(rand.NewSource(15))
	for range 500 {
		n := 1 + r.Intn(6)
		l := thrown(r, n, 2+r.Intn(8), -2, 4)
		l = append(make([]api.Bound, 0, 2*len(l)), l...)
		at := make([]int, n, 2*n)
		whole, wholeAt := slices.Clone(l[:cap(l)]), slices.Clone(at[:cap(at)])
		first := calls(n, l, at)
		if !slices.Equal(l[:cap(l)], whole) || !slices.Equal(at[:cap(at)], wholeAt) {
			t.Fatalf("%d, %v: what was handed in is %v, %v now", n, whole, l[:cap(l)], at[:cap(at)])
		}
		clear(l)
		again := calls(n, whole[:len(l)], at)
		if !same(first, again) {
			t.Fatalf("%d, %v: %v, and then %v", n, whole, first, again)
		}
	}
}

// P9.6: what is answered is the caller's: written over with its spare room, it changes neither what was handed in nor another answer.
func TestAnsweredIsNew(t *testing.T) {
	r := rand.New(rand.NewSource(16))
	for range 500 {
		n := 1 + r.Intn(6)
		l := thrown(r, n, 2+r.Intn(8), -2, 4)
		at := make([]int, n)
		before, beforeAt := slices.Clone(l), slices.Clone(at)
		first := calls(n, l, at)
		second := calls(n, l, at)
		for _, one := range first {
			for i := range one[:cap(one)] {
				one[:cap(one)][i] = -99
			}
		}
		if !slices.Equal(l, before) || !slices.Equal(at, beforeAt) || !same(second, calls(n, l, at)) {
			t.Fatalf("%d, %v: %v after what was answered was written over", n, before, second)
		}
	}
}

// R2: calls made at the same time do not see one another.
func TestAtTheSameTime(t *testing.T) {
	r := rand.New(rand.NewSource(17))
	l := thrown(r, 30, 40, -5, 9)
	at := make([]int, 30)
	want := calls(30, l, at)
	got := make(chan [][]int)
	for range 8 {
		go func() { got <- calls(30, l, at) }()
	}
	for range 8 {
		if one := <-got; !same(one, want) {
			t.Errorf("%v, not %v", one, want)
		}
	}
}
