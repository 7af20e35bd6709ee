package least

import (
	"slices"

	"casement/api"
)

// none stands for a bound, or a number, where there is none.
const none = -1

// outcome is what the rounds come to.
type outcome struct {
	at   []int // the numbers
	by   []int // for each number the bound that it was made by
	last int   // the last number that was changed; none, if the rounds came to an end by themselves
}

func (r outcome) holds() bool {
	return r.last == none
}

// run makes the rounds, n at most: each of them sets right at least one number more for good, so where the n-th one still changes something, a loop drives the numbers on.
func run(n int, l []api.Bound) outcome {
	r := outcome{at: make([]int, n), by: slices.Repeat([]int{none}, n), last: none}
	quiet := 0 // bounds in a row that changed nothing
rounds:
	for range n {
		for i, b := range l {
			if far := r.at[b.A] + b.Far; r.at[b.B] < far {
				r.at[b.B], r.by[b.B], r.last = far, i, b.B
				quiet = 0
				continue
			}
			// All bounds in a row are a round's worth, wherever in a round they began: nothing will change any more.
			if quiet++; quiet == len(l) {
				r.last = none
				break rounds
			}
		}
	}
	return r
}

// solve is Solve of bounds that may be.
func solve(n int, l []api.Bound) ([]int, api.Errno) {
	made := run(n, l)
	if !made.holds() {
		return nil, api.ErrBound
	}
	return made.at, api.OK
}

// loop is the loop that the rounds ran round, where they do not hold.
func (r outcome) loop(l []api.Bound) []int {
	back := func(number int) int { return l[r.by[number]].A }
	// The way back from the last change is longer than there are numbers, so that n steps surely lead into the loop, from whatever the loop drives beside itself.
	start := r.last
	for range len(r.at) {
		start = back(start)
	}
	way := []int{r.by[start]}
	for number := back(start); number != start; number = back(number) {
		way = append(way, r.by[number])
	}
	slices.Reverse(way)
	return begunWithLeast(way)
}

// begunWithLeast is the same way round, from its least number on.
func begunWithLeast(way []int) []int {
	first := slices.Index(way, slices.Min(way))
	return slices.Concat(way[first:], way[:first])
}

// turned are the bounds with A and B exchanged, as a list of their own.
func turned(l []api.Bound) []api.Bound {
	other := make([]api.Bound, len(l))
	for i, b := range l {
		other[i] = api.Bound{A: b.B, B: b.A, Far: b.Far}
	}
	return other
}
