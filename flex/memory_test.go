package flex

import (
	"math/rand"
	"slices"
	"testing"

	"casement/api"
)

// calls are all calls of the package on one input; what they answer, as lists.
func calls(l []api.Track, sizes []int, gap, room int) [][]int {
	shared, _ := Share(l, room)
	need, _ := Need(l)
	most, _ := Most(l)
	starts, _ := Starts(sizes, gap)
	rowSizes, rowStarts, _ := Row(l, gap, room)
	return [][]int{shared, {need, most}, starts, rowSizes, rowStarts}
}

func same(a, b [][]int) bool {
	return slices.EqualFunc(a, b, func(x, y []int) bool { return slices.Equal(x, y) })
}

// P10.5: what is handed in stays, its spare room too, and is not kept: calls of a copy, when the first list was changed since, answer the same.
func TestHandedInStays(t *testing.T) {
	r := rand.New(rand.NewSource(1))
	for range 2000 {
		l := thrown(r, 1+r.Intn(6), 9)
		l = append(make([]api.Track, 0, 2*len(l)), l...)
		sizes := append(make([]int, 0, 2*len(l)), modelShare(l, 30)...)
		whole, wholeSizes := slices.Clone(l[:cap(l)]), slices.Clone(sizes[:cap(sizes)])
		first := calls(l, sizes, 2, 40)
		if !slices.Equal(l[:cap(l)], whole) || !slices.Equal(sizes[:cap(sizes)], wholeSizes) {
			t.Fatalf("%v, %v: what was handed in is %v, %v now", whole, wholeSizes, l[:cap(l)], sizes[:cap(sizes)])
		}
		clear(l)
		clear(sizes)
		if again := calls(whole[:len(l)], wholeSizes[:len(l)], 2, 40); !same(first, again) {
			t.Fatalf("%v: %v, and then %v", whole, first, again)
		}
	}
}

// P10.5: what is answered is the caller's: each list of it, written over with its spare room, changes neither what was handed in nor another list.
func TestAnsweredIsNew(t *testing.T) {
	r := rand.New(rand.NewSource(2))
	for range 2000 {
		l := thrown(r, 1+r.Intn(6), 9)
		sizes := modelShare(l, 30)
		before, beforeSizes := slices.Clone(l), slices.Clone(sizes)
		want := calls(l, sizes, 2, 40)
		for i := range want {
			got := calls(l, sizes, 2, 40)
			for j := range got[i][:cap(got[i])] {
				got[i][:cap(got[i])][j] = -99
			}
			got[i] = want[i]
			if !slices.Equal(l, before) || !slices.Equal(sizes, beforeSizes) || !same(got, want) {
				t.Fatalf("%v, %v: %v when the list %d was written over", before, beforeSizes, got, i)
			}
		}
		if !same(want, calls(l, sizes, 2, 40)) {
			t.Fatalf("%v: not %v any more", before, want)
		}
	}
}

// R2: calls made at the same time do not see one another.
func TestAtTheSameTime(t *testing.T) {
	l := thrown(rand.New(rand.NewSource(3)), 200, 9)
	sizes := modelShare(l, 3000)
	want := calls(l, sizes, 2, 3000)
	got := make(chan [][]int)
	for range 8 {
		go func() { got <- calls(l, sizes, 2, 3000) }()
	}
	for range 8 {
		if one := <-got; !same(one, want) {
			t.Errorf("%v, not %v", one, want)
		}
	}
}
