package least

import (
	"math/rand"
	"slices"
	"testing"

	"casement/api"
)

// noWay stands, in the model, where no bounds lead from one number to the other one.
const noWay = -1 << 60

// ways is, for each two numbers, the longest way of bounds from one to the other one (the way of no bound is 0); holds: no way round is longer than nothing.
func ways(n int, l []api.Bound) (way [][]int, holds bool) {
	for i := range n {
		way = append(way, slices.Repeat([]int{noWay}, n))
		way[i][i] = 0
	}
	for _, b := range l {
		way[b.A][b.B] = max(way[b.A][b.B], b.Far)
	}
	for k := range n {
		for i := range n {
			for j := range n {
				if way[i][k] != noWay && way[k][j] != noWay {
					way[i][j] = max(way[i][j], way[i][k]+way[k][j])
				}
			}
		}
	}
	for i := range n {
		if way[i][i] > 0 {
			return nil, false
		}
	}
	return way, true
}

// modelSolve: a number must be as far from 0 as the longest way to it.
func modelSolve(n int, l []api.Bound) ([]int, bool) {
	way, ok := ways(n, l)
	if !ok {
		return nil, false
	}
	at := make([]int, n)
	for i := range n {
		for j := range n {
			at[j] = max(at[j], way[i][j])
		}
	}
	return at, true
}

// modelMost: a number must be as far from most as the longest way from it.
func modelMost(n int, l []api.Bound, most int) ([]int, bool) {
	way, ok := ways(n, l)
	if !ok {
		return nil, false
	}
	at := slices.Repeat([]int{most}, n)
	for i := range n {
		for j := range n {
			at[i] = min(at[i], most-way[i][j])
		}
		if at[i] < 0 {
			return nil, false
		}
	}
	return at, true
}

// modelLoop follows the chapter's words, change by change: all n rounds, whatever they do.
func modelLoop(n int, l []api.Bound) []int {
	type change struct{ round, number, bound int }
	var changes []change
	at := map[int]int{}
	for round := range n {
		for i, b := range l {
			if at[b.B] < at[b.A]+b.Far {
				at[b.B] = at[b.A] + b.Far
				changes = append(changes, change{round + 1, b.B, i})
			}
		}
	}
	if len(changes) == 0 || changes[len(changes)-1].round < n {
		return nil
	}
	by := map[int]int{}
	for _, c := range changes {
		by[c.number] = c.bound
	}
	stand := changes[len(changes)-1].number
	for range n {
		stand = l[by[stand]].A
	}
	var loop []int
	for next := stand; len(loop) == 0 || next != stand; next = l[by[next]].A {
		loop = append([]int{by[next]}, loop...)
	}
	for loop[0] != slices.Min(loop) {
		loop = append(loop[1:], loop[0])
	}
	return loop
}

func modelTight(at []int, l []api.Bound) []int {
	var tight []int
	for i, b := range l {
		if at[b.B]-at[b.A] == b.Far {
			tight = append(tight, i)
		}
	}
	return tight
}

func modelKeeps(at []int, l []api.Bound) int {
	return slices.IndexFunc(l, func(b api.Bound) bool { return at[b.B]-at[b.A] < b.Far })
}

// thrown is bounds about n numbers, with Fars about the middle given.
func thrown(r *rand.Rand, n, many, middle, spread int) []api.Bound {
	var l []api.Bound
	for range many {
		l = append(l, api.Bound{A: r.Intn(n), B: r.Intn(n), Far: middle + r.Intn(2*spread+1) - spread})
	}
	return l
}

// hangsTogether holds all calls against the model, and against what follows.
func hangsTogether(t *testing.T, n int, l []api.Bound, most int) {
	t.Helper()
	at, e := Solve(n, l)
	want, ok := modelSolve(n, l)
	if ok != (e == api.OK) || !ok && e != api.ErrBound || !slices.Equal(at, want) {
		t.Fatalf("Solve(%d, %v): %v, %d; %v", n, l, at, e, want)
	}
	tight, f := Tight(n, l)
	if f != e || ok && !slices.Equal(tight, modelTight(want, l)) || !ok && tight != nil {
		t.Fatalf("Tight(%d, %v): %v, %d", n, l, tight, f)
	}
	for i, x := range at {
		if x > 0 && !slices.ContainsFunc(tight, func(j int) bool { return l[j].B == i }) {
			t.Fatalf("Tight(%d, %v): %v: nothing holds the number %d of %v", n, l, tight, i, at)
		}
	}
	loop, f := Loop(n, l)
	if f != api.OK || !slices.Equal(loop, modelLoop(n, l)) || ok != (len(loop) == 0) {
		t.Fatalf("Loop(%d, %v): %v, %d; %v", n, l, loop, f, modelLoop(n, l))
	}
	if !ok {
		cantHold(t, loop, l)
	}
	great, f := Most(n, l, most)
	wantMost, okMost := modelMost(n, l, most)
	if okMost != (f == api.OK) || !okMost && f != api.ErrBound || !slices.Equal(great, wantMost) {
		t.Fatalf("Most(%d, %v, %d): %v, %d; %v", n, l, most, great, f, wantMost)
	}
	for _, x := range [][]int{at, great} {
		if len(x) == n {
			if i, e := Keeps(x, l); i != -1 || e != api.OK {
				t.Fatalf("Keeps(%v, %v): %d, %d", x, l, i, e)
			}
		}
	}
}

// cantHold asks that bounds are a loop, begun with the least one, whose sum is above 0.
func cantHold(t *testing.T, loop []int, l []api.Bound) {
	t.Helper()
	sum, from := 0, map[int]int{}
	for i, j := range loop {
		if next := loop[(i+1)%len(loop)]; l[j].B != l[next].A {
			t.Fatalf("%v is no loop of %v", loop, l)
		}
		from[l[j].A]++
		sum += l[j].Far
	}
	if len(loop) == 0 || len(from) != len(loop) || sum <= 0 || loop[0] != slices.Min(loop) {
		t.Fatalf("%v of %v, with the sum %d", loop, l, sum)
	}
}

// P9.1, P9.3, P9.4, P9.5, P9.7
func TestThrown(t *testing.T) {
	r := rand.New(rand.NewSource(9))
	held, not := 0, 0
	for range 30000 {
		n := 1 + r.Intn(8)
		spread := 1 + r.Intn(6)
		l := thrown(r, n, r.Intn(3*n), r.Intn(5)-4, spread)
		most := r.Intn(20)
		hangsTogether(t, n, l, most)
		if _, ok := modelSolve(n, l); ok {
			held++
		} else {
			not++
		}
	}
	if held < 5000 || not < 5000 {
		t.Errorf("too few of one sort: %d, %d", held, not)
	}
}

// P9.1, P9.3, P9.5: great ones, with Fars up to the ends.
func TestThrownGreat(t *testing.T) {
	r := rand.New(rand.NewSource(10))
	for range 60 {
		n := 20 + r.Intn(40)
		hangsTogether(t, n, thrown(r, n, 2*n, -1<<18, 1<<18+1<<r.Intn(19)), 1<<22)
		hangsTogether(t, n, thrown(r, n, 4*n, -1<<19, 1<<19), 1<<r.Intn(41))
	}
}

// P9.2
func TestThrownKeeps(t *testing.T) {
	r := rand.New(rand.NewSource(11))
	for range 20000 {
		n := 1 + r.Intn(5)
		l := thrown(r, n, r.Intn(6), -3, 5)
		at := make([]int, n)
		for i := range at {
			at[i] = r.Intn(13) - 6
		}
		if i, e := Keeps(at, l); i != modelKeeps(at, l) || e != api.OK {
			t.Fatalf("Keeps(%v, %v): %d, %d", at, l, i, e)
		}
	}
}

// every goes through all n numbers from 0 to most.
func every(n, most int, do func(at []int)) {
	at := make([]int, n)
	for {
		do(at)
		i := 0
		for ; i < n && at[i] == most; i++ {
			at[i] = 0
		}
		if i == n {
			return
		}
		at[i]++
	}
}

// P9.1, P9.5, P9.7: of all numbers there are, tried one by one, the least and the greatest ones.
func TestTriedOneByOne(t *testing.T) {
	r := rand.New(rand.NewSource(12))
	for range 1500 {
		n, most := 1+r.Intn(3), r.Intn(8)
		l := thrown(r, n, r.Intn(5), 0, 3)
		least, great := slices.Repeat([]int{most}, n), make([]int, n)
		found := 0
		every(n, most, func(at []int) {
			if modelKeeps(at, l) >= 0 {
				return
			}
			found++
			for i, x := range at {
				least[i], great[i] = min(least[i], x), max(great[i], x)
			}
		})
		gotLeast, e := Solve(n, l)
		gotGreat, f := Most(n, l, most)
		if found == 0 {
			if f != api.ErrBound || gotGreat != nil || e == api.OK && slices.Max(gotLeast) <= most {
				t.Fatalf("%d, %v up to %d: %v, %d; %v, %d", n, l, most, gotLeast, e, gotGreat, f)
			}
			continue
		}
		if e != api.OK || f != api.OK || !slices.Equal(gotLeast, least) || !slices.Equal(gotGreat, great) {
			t.Fatalf("%d, %v up to %d: %v, %d; %v, %d", n, l, most, gotLeast, e, gotGreat, f)
		}
	}
}

// P9.7: with one bound more no number gets less, and none of Most's gets more.
func TestOneBoundMore(t *testing.T) {
	r := rand.New(rand.NewSource(13))
	for range 3000 {
		n := 2 + r.Intn(6)
		l := thrown(r, n, 2*n, -2, 4)
		least, great := make([]int, n), slices.Repeat([]int{40}, n)
		for i := range l {
			at, e := Solve(n, l[:i+1])
			if e != api.OK {
				break
			}
			top, f := Most(n, l[:i+1], 40)
			for j := range n {
				if at[j] < least[j] || f == api.OK && top[j] > great[j] {
					t.Fatalf("%d, %v: %v after %v, %v after %v", n, l[:i+1], at, least, top, great)
				}
			}
			least = at
			if f == api.OK {
				great = top
			}
		}
	}
}

// P9.8
func TestTurnedRound(t *testing.T) {
	r := rand.New(rand.NewSource(14))
	both := 0
	for range 5000 {
		n, most := 1+r.Intn(6), r.Intn(30)
		l := thrown(r, n, 2*n, -2, 4)
		var other []api.Bound
		for _, b := range l {
			other = append(other, api.Bound{A: b.B, B: b.A, Far: b.Far})
		}
		at, e := Solve(n, other)
		great, f := Most(n, l, most)
		if e != api.OK || f != api.OK {
			continue
		}
		both++
		for i := range n {
			if great[i] != most-at[i] {
				t.Fatalf("%d, %v, %d: %v; turned round %v", n, l, most, great, at)
			}
		}
	}
	if both < 500 {
		t.Errorf("only %d with both answers", both)
	}
}
