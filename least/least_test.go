package least

import (
	"math"
	"slices"
	"testing"

	"casement/api"
)

func bound(a, b, far int) api.Bound { return api.Bound{A: a, B: b, Far: far} }

// P9.1, P9.3, P9.4: the chapter's examples and their edges.
func TestSolveLoopTight(t *testing.T) {
	for i, x := range []struct {
		n           int
		l           []api.Bound
		want, tight []int
		loop        []int // where there is one, nothing is answered
	}{
		{3, []api.Bound{bound(0, 1, 5), bound(1, 2, 3), bound(0, 2, 4)}, []int{0, 5, 8}, []int{0, 1}, nil},
		{2, []api.Bound{bound(0, 1, 5), bound(1, 0, -7)}, []int{0, 5}, []int{0}, nil},
		{2, []api.Bound{bound(0, 1, 5), bound(1, 0, -4)}, nil, nil, []int{0, 1}},
		{1, []api.Bound{bound(0, 0, 0)}, []int{0}, []int{0}, nil},
		{1, []api.Bound{bound(0, 0, 1)}, nil, nil, []int{0}},
		{1, []api.Bound{bound(0, 0, -1)}, []int{0}, nil, nil},
		{2, []api.Bound{bound(0, 1, -3)}, []int{0, 0}, nil, nil},
		// nothing at all, and numbers without a bound
		{0, nil, nil, nil, nil},
		{0, []api.Bound{}, nil, nil, nil},
		{1, nil, []int{0}, nil, nil},
		{3, nil, []int{0, 0, 0}, nil, nil},
		// a number and itself, beside others
		{2, []api.Bound{bound(1, 1, 0), bound(0, 1, 4), bound(1, 1, -9)}, []int{0, 4}, []int{0, 1}, nil},
		{2, []api.Bound{bound(0, 1, 4), bound(1, 1, 1)}, nil, nil, []int{1}},
		{3, []api.Bound{bound(2, 2, 7)}, nil, nil, []int{0}},
		// the ends of Far
		{2, []api.Bound{bound(0, 1, 1<<20)}, []int{0, 1 << 20}, []int{0}, nil},
		{2, []api.Bound{bound(0, 1, -1<<20)}, []int{0, 0}, nil, nil},
		{2, []api.Bound{bound(0, 1, 1<<20), bound(1, 0, -1<<20)}, []int{0, 1 << 20}, []int{0, 1}, nil},
		{2, []api.Bound{bound(1, 0, 1<<20), bound(0, 1, 1-1<<20)}, nil, nil, []int{0, 1}},
		// bounds that stand twice, and greater and lesser ones of the same numbers
		{2, []api.Bound{bound(0, 1, 2), bound(0, 1, 2)}, []int{0, 2}, []int{0, 1}, nil},
		{2, []api.Bound{bound(0, 1, 2), bound(0, 1, 3), bound(0, 1, 2)}, []int{0, 3}, []int{1}, nil},
		{2, []api.Bound{bound(0, 1, 2), bound(0, 1, 2), bound(1, 0, -1), bound(1, 0, -1)}, nil, nil, []int{0, 2}},
		// loops below 0, just 0 and above it
		{3, []api.Bound{bound(0, 1, 2), bound(1, 2, 3), bound(2, 0, -6)}, []int{0, 2, 5}, []int{0, 1}, nil},
		{3, []api.Bound{bound(0, 1, 2), bound(1, 2, 3), bound(2, 0, -5)}, []int{0, 2, 5}, []int{0, 1, 2}, nil},
		{3, []api.Bound{bound(0, 1, 2), bound(1, 2, 3), bound(2, 0, -4)}, nil, nil, []int{0, 1, 2}},
		{3, []api.Bound{bound(0, 1, 0), bound(1, 2, 0), bound(2, 0, 0)}, []int{0, 0, 0}, []int{0, 1, 2}, nil},
		{3, []api.Bound{bound(0, 1, -1), bound(1, 2, 0), bound(2, 0, 0)}, []int{0, 0, 0}, []int{1, 2}, nil},
		// numbers of 0 that no bound makes, and bounds kept just so beside others
		{4, []api.Bound{bound(3, 1, 1), bound(2, 1, 0), bound(1, 3, -1), bound(0, 2, 0), bound(2, 0, -1)}, []int{0, 1, 0, 0}, []int{0, 2, 3}, nil},
		// a loop that does not begin with its least number: the way goes 1, 3, 2
		{4, []api.Bound{bound(3, 0, 9), bound(2, 3, 1), bound(1, 2, 0), bound(3, 1, 0)}, nil, nil, []int{1, 3, 2}},
		{3, []api.Bound{bound(2, 0, 1), bound(1, 2, 1), bound(0, 1, 1)}, nil, nil, []int{0, 2, 1}},
		// the last number that was changed lies beside the loop, which drives it
		{5, []api.Bound{bound(0, 1, 1), bound(1, 0, 0), bound(1, 2, 0), bound(2, 3, 0), bound(3, 4, 0)}, nil, nil, []int{0, 1}},
		// several loops that can't hold: the one behind the last change is told
		{4, []api.Bound{bound(0, 1, 1), bound(1, 0, 0), bound(2, 3, 1), bound(3, 2, 0)}, nil, nil, []int{2, 3}},
		{4, []api.Bound{bound(2, 3, 1), bound(3, 2, 0), bound(0, 1, 1), bound(1, 0, 0)}, nil, nil, []int{2, 3}},
		{4, []api.Bound{bound(2, 3, 1), bound(0, 1, 1), bound(1, 0, 0), bound(3, 2, 0)}, nil, nil, []int{0, 3}},
		{2, []api.Bound{bound(0, 0, 5), bound(1, 1, 1)}, nil, nil, []int{1}},
		{2, []api.Bound{bound(1, 1, 1), bound(0, 0, 5)}, nil, nil, []int{1}},
		{2, []api.Bound{bound(1, 1, 1), bound(1, 1, 2), bound(1, 1, 1)}, nil, nil, []int{2}},
	} {
		wantE := api.OK
		if x.loop != nil {
			wantE = api.ErrBound
		}
		if got, e := Solve(x.n, x.l); !slices.Equal(got, x.want) || e != wantE {
			t.Errorf("Solve %d: %v, %d", i, got, e)
		}
		if got, e := Tight(x.n, x.l); !slices.Equal(got, x.tight) || e != wantE {
			t.Errorf("Tight %d: %v, %d", i, got, e)
		}
		if got, e := Loop(x.n, x.l); !slices.Equal(got, x.loop) || e != api.OK {
			t.Errorf("Loop %d: %v, %d", i, got, e)
		}
		if got := modelLoop(x.n, x.l); !slices.Equal(got, x.loop) {
			t.Errorf("the model of Loop %d: %v", i, got)
		}
	}
}

// chain is bounds of 1 from each number to the next one, the last one first: each round but the n-th makes one number more.
func chain(n int) []api.Bound {
	var l []api.Bound
	for i := n - 1; i > 0; i-- {
		l = append(l, bound(i-1, i, 1))
	}
	return l
}

// P9.1, P9.3: chains for which it takes n - 1 rounds, and the loops that they are closed to.
func TestChains(t *testing.T) {
	for _, n := range []int{2, 3, 4, 5, 17, 300, api.MaxBounds} {
		l := chain(n)
		at, e := Solve(n, l)
		if e != api.OK || len(at) != n {
			t.Fatalf("%d: %d numbers, %d", n, len(at), e)
		}
		for i, x := range at {
			if x != i {
				t.Fatalf("%d: the number %d is %d", n, i, x)
			}
		}
		if got, e := Tight(n, l); len(got) != n-1 || e != api.OK {
			t.Errorf("Tight %d: %d, %d", n, len(got), e)
		}
		if got, e := Most(n, l, n-1); !slices.Equal(got, at) || e != api.OK {
			t.Errorf("Most %d, just enough: %d", n, e)
		}
		if got, e := Most(n, l, n-2); got != nil || e != api.ErrBound {
			t.Errorf("Most %d, too little: %d, %d", n, len(got), e)
		}
		just := append(slices.Clone(l), bound(n-1, 0, 1-n))
		if got, e := Solve(n, just); !slices.Equal(got, at) || e != api.OK {
			t.Errorf("%d, closed to 0: %d", n, e)
		}
		if got, e := Loop(n, just); got != nil || e != api.OK {
			t.Errorf("Loop %d, closed to 0: %d, %d", n, len(got), e)
		}
		above := append(slices.Clone(l), bound(n-1, 0, 2-n))
		if got, e := Solve(n, above); got != nil || e != api.ErrBound {
			t.Errorf("%d, closed above 0: %d", n, e)
		}
		loop, e := Loop(n, above)
		if len(loop) != n || e != api.OK {
			t.Errorf("Loop %d, closed above 0: %d, %d", n, len(loop), e)
		}
		cantHold(t, loop, above)
	}
}

// P9.1, P9.3, P9.5: as many numbers and bounds as there may be, with the greatest Fars, whatever sums they make.
func TestGreatest(t *testing.T) {
	n := api.MaxBounds
	self := slices.Repeat([]api.Bound{bound(n-1, n-1, 1<<20)}, n)
	if got, e := Solve(n, self); got != nil || e != api.ErrBound {
		t.Errorf("one number, driven on: %d, %d", len(got), e)
	}
	if got, e := Loop(n, self); !slices.Equal(got, []int{n - 1}) || e != api.OK {
		t.Errorf("Loop of one number, driven on: %v, %d", got, e)
	}
	far := make([]api.Bound, n)
	for i := range far {
		far[i] = bound(i, (i+1)%n, 1<<20)
	}
	got, e := Loop(n, far)
	if len(got) != n || e != api.OK {
		t.Errorf("all round: %d, %d", len(got), e)
	}
	cantHold(t, got, far)
	at, e := Solve(n, far[:n-1])
	if e != api.OK || len(at) != n || at[n-1] != (n-1)<<20 {
		t.Errorf("far: %d", e)
	}
	if got, e := Most(n, far[:n-1], 1<<40); e != api.OK || got[0] != 1<<40-(n-1)<<20 || got[n-1] != 1<<40 {
		t.Errorf("Most, far: %d", e)
	}
	if got, e := Solve(n, make([]api.Bound, n)); len(got) != n || slices.Max(got) != 0 || e != api.OK {
		t.Errorf("all bounds the zero one: %d, %d", len(got), e)
	}
}

// P9.5
func TestMost(t *testing.T) {
	l := []api.Bound{bound(0, 1, 5), bound(1, 2, 3), bound(0, 2, 4)}
	for i, x := range []struct {
		n    int
		l    []api.Bound
		most int
		want []int
		e    api.Errno
	}{
		{3, l, 20, []int{12, 17, 20}, api.OK},
		{3, l, 8, []int{0, 5, 8}, api.OK},
		{3, l, 7, nil, api.ErrBound},
		{3, l, 0, nil, api.ErrBound},
		{3, l, 1 << 40, []int{1<<40 - 8, 1<<40 - 3, 1 << 40}, api.OK},
		{3, l, 1<<40 + 1, nil, api.ErrArg},
		{3, l, math.MaxInt, nil, api.ErrArg},
		{3, l, -1, nil, api.ErrArg},
		{3, l, math.MinInt, nil, api.ErrArg},
		{2, []api.Bound{bound(0, 1, 5), bound(1, 0, -7)}, 10, []int{5, 10}, api.OK},
		{2, []api.Bound{bound(0, 1, 5), bound(1, 0, -5)}, 5, []int{0, 5}, api.OK},
		{2, []api.Bound{bound(0, 1, 5), bound(1, 0, -4)}, 1 << 40, nil, api.ErrBound},
		{2, []api.Bound{bound(0, 1, 5)}, 4, nil, api.ErrBound},
		{2, []api.Bound{bound(0, 1, -3)}, 0, []int{0, 0}, api.OK},
		{2, []api.Bound{bound(0, 1, -3)}, 9, []int{9, 9}, api.OK},
		// how far below most a number stays hangs on the bounds that go out from it
		{2, []api.Bound{bound(0, 1, 0), bound(1, 0, -2)}, 9, []int{9, 9}, api.OK},
		{1, nil, 0, []int{0}, api.OK},
		{1, []api.Bound{bound(0, 0, 0)}, 3, []int{3}, api.OK},
		{1, []api.Bound{bound(0, 0, 1)}, 3, nil, api.ErrBound},
		{0, nil, 0, nil, api.OK},
		{0, nil, -1, nil, api.ErrArg},
		{0, nil, 1<<40 + 1, nil, api.ErrArg},
	} {
		if got, e := Most(x.n, x.l, x.most); !slices.Equal(got, x.want) || e != x.e {
			t.Errorf("Most %d: %v, %d", i, got, e)
		}
	}
}

// P9.2
func TestKeeps(t *testing.T) {
	far := 1 << 40
	two := []api.Bound{bound(0, 1, 5), bound(1, 0, -4)}
	for i, x := range []struct {
		at   []int
		l    []api.Bound
		want int
		e    api.Errno
	}{
		{[]int{0, 5}, two, 1, api.OK},
		{[]int{0, 4}, two, 0, api.OK},
		{[]int{0, 3}, two, 0, api.OK},
		{[]int{0, 5}, two[:1], -1, api.OK},
		{[]int{-7, -2}, two[:1], -1, api.OK},
		{[]int{-7, -3}, two[:1], 0, api.OK},
		// the first of several that are not kept
		{[]int{0, 0, 0}, []api.Bound{bound(0, 1, 0), bound(1, 2, 1), bound(2, 1, 1), bound(0, 0, 1)}, 1, api.OK},
		{[]int{0, 1, 0}, []api.Bound{bound(0, 1, 0), bound(1, 2, 1), bound(2, 1, 1), bound(0, 0, 1)}, 1, api.OK},
		{[]int{0, 0, 1}, []api.Bound{bound(0, 1, 0), bound(1, 2, 1), bound(2, 1, 1), bound(0, 0, 1)}, 2, api.OK},
		{[]int{0, 2, 1}, []api.Bound{bound(0, 1, 0), bound(2, 1, 1), bound(0, 0, 1)}, 2, api.OK},
		// a number and itself
		{[]int{3}, []api.Bound{bound(0, 0, 0)}, -1, api.OK},
		{[]int{3}, []api.Bound{bound(0, 0, -1)}, -1, api.OK},
		{[]int{3}, []api.Bound{bound(0, 0, 1)}, 0, api.OK},
		// nothing
		{nil, nil, -1, api.OK},
		{[]int{}, []api.Bound{}, -1, api.OK},
		{[]int{7}, nil, -1, api.OK},
		{nil, []api.Bound{bound(0, 0, 0)}, 0, api.ErrArg},
		// the ends of the numbers
		{[]int{-far, far}, []api.Bound{bound(0, 1, 1<<20), bound(1, 0, -1<<20)}, 1, api.OK},
		{[]int{far, far}, []api.Bound{bound(0, 1, 0), bound(0, 1, 1<<20)}, 1, api.OK},
		{[]int{-far, -far}, []api.Bound{bound(0, 1, 0), bound(0, 1, -1<<20)}, -1, api.OK},
		{[]int{far + 1}, nil, 0, api.ErrArg},
		{[]int{-far - 1}, nil, 0, api.ErrArg},
		{[]int{0, 0, far + 1}, nil, 0, api.ErrArg},
		{[]int{math.MinInt}, nil, 0, api.ErrArg},
		{[]int{math.MaxInt}, nil, 0, api.ErrArg},
		// how many, and in which order it is looked for
		{make([]int, api.MaxBounds), make([]api.Bound, api.MaxBounds), -1, api.OK},
		{make([]int, api.MaxBounds+1), nil, 0, api.ErrMany},
		{slices.Repeat([]int{far + 1}, api.MaxBounds+1), []api.Bound{bound(-1, 0, 0)}, 0, api.ErrMany},
		{[]int{far + 1}, make([]api.Bound, api.MaxBounds+1), 0, api.ErrArg},
		{[]int{far}, make([]api.Bound, api.MaxBounds+1), 0, api.ErrMany},
		// about as many numbers
		{[]int{0, 0}, []api.Bound{bound(1, 1, 0)}, -1, api.OK},
		{[]int{0, 0}, []api.Bound{bound(2, 1, 0)}, 0, api.ErrArg},
		{[]int{0, 0}, []api.Bound{bound(1, 2, 0)}, 0, api.ErrArg},
		// a bound that may not be, behind one that is not kept
		{[]int{0, 0}, []api.Bound{bound(0, 1, 1), bound(0, 2, 0)}, 0, api.ErrArg},
		{[]int{0, 0}, []api.Bound{bound(0, 1, 1), bound(0, 1, 1<<20+1)}, 0, api.ErrArg},
	} {
		if got, e := Keeps(x.at, x.l); got != x.want || e != x.e {
			t.Errorf("Keeps %d: %d, %d", i, got, e)
		}
	}
}

// The errors of n and the bounds, in their order, in all calls that take them.
func TestErrors(t *testing.T) {
	many := make([]api.Bound, api.MaxBounds+1)
	wrong := slices.Repeat([]api.Bound{bound(-1, 0, 0)}, api.MaxBounds+1)
	for i, x := range []struct {
		n int
		l []api.Bound
		e api.Errno
	}{
		{-1, nil, api.ErrArg},
		{-1, many, api.ErrArg},
		{-1, wrong, api.ErrArg},
		{math.MinInt, nil, api.ErrArg},
		{0, nil, api.OK},
		{1, nil, api.OK},
		{api.MaxBounds, nil, api.OK},
		{api.MaxBounds + 1, nil, api.ErrMany},
		{api.MaxBounds + 1, []api.Bound{bound(-1, 0, 0)}, api.ErrMany},
		{math.MaxInt, wrong, api.ErrMany},
		{0, many, api.ErrMany},
		{1, many, api.ErrMany},
		{1, wrong, api.ErrMany},
		{api.MaxBounds, many, api.ErrMany},
		{api.MaxBounds, many[1:], api.OK},
		{0, []api.Bound{bound(0, 0, 0)}, api.ErrArg},
		{2, []api.Bound{bound(-1, 0, 0)}, api.ErrArg},
		{2, []api.Bound{bound(0, -1, 0)}, api.ErrArg},
		{2, []api.Bound{bound(1, 0, 0)}, api.OK},
		{2, []api.Bound{bound(0, 1, 0)}, api.OK},
		{2, []api.Bound{bound(2, 0, 0)}, api.ErrArg},
		{2, []api.Bound{bound(0, 2, 0)}, api.ErrArg},
		{2, []api.Bound{bound(math.MinInt, 0, 0)}, api.ErrArg},
		{2, []api.Bound{bound(0, math.MaxInt, 0)}, api.ErrArg},
		{2, []api.Bound{bound(0, 1, 1<<20)}, api.OK},
		{2, []api.Bound{bound(0, 1, -1<<20)}, api.OK},
		{2, []api.Bound{bound(0, 1, 1<<20+1)}, api.ErrArg},
		{2, []api.Bound{bound(0, 1, -1<<20-1)}, api.ErrArg},
		{2, []api.Bound{bound(0, 1, math.MaxInt)}, api.ErrArg},
		{2, []api.Bound{bound(0, 1, math.MinInt)}, api.ErrArg},
		// a bound that may not be is told ahead of those that can't hold
		{1, []api.Bound{bound(0, 0, 1), bound(0, 1, 0)}, api.ErrArg},
		{1, []api.Bound{bound(0, 1, 0), bound(0, 0, 1)}, api.ErrArg},
	} {
		if got, e := Solve(x.n, x.l); e != x.e || e != api.OK && got != nil {
			t.Errorf("Solve %d: %d, %d", i, len(got), e)
		}
		if got, e := Loop(x.n, x.l); e != x.e || got != nil {
			t.Errorf("Loop %d: %d, %d", i, len(got), e)
		}
		if got, e := Tight(x.n, x.l); e != x.e || e != api.OK && got != nil {
			t.Errorf("Tight %d: %d, %d", i, len(got), e)
		}
		if got, e := Most(x.n, x.l, 1<<40); e != x.e || e != api.OK && got != nil {
			t.Errorf("Most %d: %d, %d", i, len(got), e)
		}
		// most is looked at behind the bounds
		wantMost := x.e
		if wantMost == api.OK {
			wantMost = api.ErrArg
		}
		if got, e := Most(x.n, x.l, -1); e != wantMost || got != nil {
			t.Errorf("Most of -1, %d: %d, %d", i, len(got), e)
		}
	}
	// and ahead of what hangs on both
	if got, e := Most(1, []api.Bound{bound(0, 0, 1)}, 1<<40+1); e != api.ErrArg || got != nil {
		t.Errorf("Most beyond its end, of bounds that can't hold: %d, %d", len(got), e)
	}
}
