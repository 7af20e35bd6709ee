package flex

import (
	"math"
	"slices"
	"testing"

	"casement/api"
)

const side, room2 = api.MaxSide, 2 * api.MaxSide

func track(least, most, grow int) api.Track { return api.Track{Min: least, Max: most, Grow: grow} }

func tracks(l ...api.Track) []api.Track { return l }

// P10.1, P10.2: the chapter's examples, and the edges of the sharing; most -1: any.
func TestShareNeedMost(t *testing.T) {
	free, two, three := track(0, 0, 1), track(0, 0, 2), track(0, 0, 3)
	for i, x := range []struct {
		l          []api.Track
		room       int
		want       []int
		need, most int
	}{
		// the chapter's
		{tracks(track(2, 0, 1), track(3, 0, 1)), 11, []int{5, 6}, 5, -1},
		{tracks(track(2, 0, 1), track(3, 0, 1)), 12, []int{6, 6}, 5, -1},
		{tracks(track(2, 0, 0), track(3, 0, 1)), 9, []int{2, 7}, 5, -1},
		{tracks(track(0, 2, 1), free, two), 11, []int{2, 3, 6}, 0, -1},
		{tracks(track(0, 2, 1), track(0, 3, 5)), 20, []int{2, 3}, 0, 5},
		{tracks(track(4, 0, 1), track(5, 0, 9)), 6, []int{4, 5}, 9, -1},
		{tracks(free, free, free), 5, []int{2, 2, 1}, 0, -1},
		{tracks(track(2, 0, 1), track(3, 9, 0)), 5, []int{2, 3}, 5, -1},
		{tracks(track(2, 5, 1), track(3, 9, 0)), 9, []int{5, 3}, 5, 8},
		// nothing
		{nil, 0, nil, 0, 0},
		{nil, 5, nil, 0, 0},
		{tracks(), room2, nil, 0, 0},
		{tracks(track(0, 0, 0)), 9, []int{0}, 0, 0},
		{tracks(free), 0, []int{0}, 0, -1},
		// no grower, whatever room there is, and whatever top those have that do not grow
		{tracks(track(2, 0, 0), track(3, 3, 0), track(1, 9, 0)), 0, []int{2, 3, 1}, 6, 6},
		{tracks(track(2, 0, 0), track(3, 3, 0), track(1, 9, 0)), 6, []int{2, 3, 1}, 6, 6},
		{tracks(track(2, 0, 0), track(3, 3, 0), track(1, 9, 0)), room2, []int{2, 3, 1}, 6, 6},
		// growers whose top is their Min, alone, beside one that does not grow, beside one that can have more
		{tracks(track(3, 3, 1)), 9, []int{3}, 3, 3},
		{tracks(track(3, 3, 1)), 2, []int{3}, 3, 3},
		{tracks(track(3, 3, 1), track(4, 4, 2)), 9, []int{3, 4}, 7, 7},
		{tracks(track(3, 3, 7), track(1, 0, 0)), 9, []int{3, 1}, 4, 4},
		{tracks(track(3, 3, 7), track(1, 0, 1)), 9, []int{3, 6}, 4, -1},
		// one grower alone: any top, a top
		{tracks(free), 7, []int{7}, 0, -1},
		{tracks(track(2, 0, 5)), room2, []int{room2}, 2, -1},
		{tracks(track(2, 6, 5)), 5, []int{5}, 2, 6},
		{tracks(track(2, 6, 5)), 6, []int{6}, 2, 6},
		{tracks(track(2, 6, 5)), 7, []int{6}, 2, 6},
		// a room below the need, one below it, just the need, one above it; between, one below the most, just the most, one above it, far above it
		{tracks(track(2, 5, 1), track(3, 7, 1), track(1, 0, 0)), 0, []int{2, 3, 1}, 6, 13},
		{tracks(track(2, 5, 1), track(3, 7, 1), track(1, 0, 0)), 5, []int{2, 3, 1}, 6, 13},
		{tracks(track(2, 5, 1), track(3, 7, 1), track(1, 0, 0)), 6, []int{2, 3, 1}, 6, 13},
		{tracks(track(2, 5, 1), track(3, 7, 1), track(1, 0, 0)), 7, []int{3, 3, 1}, 6, 13},
		{tracks(track(2, 5, 1), track(3, 7, 1), track(1, 0, 0)), 9, []int{4, 4, 1}, 6, 13},
		{tracks(track(2, 5, 1), track(3, 7, 1), track(1, 0, 0)), 12, []int{5, 6, 1}, 6, 13},
		{tracks(track(2, 5, 1), track(3, 7, 1), track(1, 0, 0)), 13, []int{5, 7, 1}, 6, 13},
		{tracks(track(2, 5, 1), track(3, 7, 1), track(1, 0, 0)), 14, []int{5, 7, 1}, 6, 13},
		{tracks(track(2, 5, 1), track(3, 7, 1), track(1, 0, 0)), room2, []int{5, 7, 1}, 6, 13},
		// tops that come only behind others': by 10 the second one would get 3 and lacks 4, but the first one leaves it more
		{tracks(track(0, 1, 1), track(0, 4, 1), free), 10, []int{1, 4, 5}, 0, -1},
		{tracks(track(0, 1, 1), track(0, 5, 1), free), 10, []int{1, 5, 4}, 0, -1},
		{tracks(free, track(0, 6, 1), track(0, 4, 1), track(0, 1, 1)), 17, []int{6, 6, 4, 1}, 0, -1},
		{tracks(track(0, 8, 1), track(0, 4, 1), track(0, 2, 1), track(0, 1, 1)), 15, []int{8, 4, 2, 1}, 0, 15},
		{tracks(track(0, 8, 1), track(0, 4, 1), track(0, 2, 1), track(0, 1, 1)), 14, []int{7, 4, 2, 1}, 0, 15},
		// all of a round are held against the same: what the first one lacks is no reason to keep the second one from its top
		{tracks(track(0, 4, 1), track(0, 4, 1)), 8, []int{4, 4}, 0, 8},
		{tracks(track(0, 1, 1), track(0, 4, 2), free), 8, []int{1, 4, 3}, 0, -1},
		// left * Grow is just g times what a grower lacks (2 * 6 is 3 * 4), and one below: it gets its top at once, or what is left over
		{tracks(track(0, 4, 2), free), 6, []int{4, 2}, 0, -1},
		{tracks(track(0, 5, 2), free), 7, []int{5, 2}, 0, -1},
		{tracks(track(1, 7, 3), track(1, 0, 1)), 10, []int{7, 3}, 2, -1},
		{tracks(free, track(0, 2, 1), free), 6, []int{2, 2, 2}, 0, -1},
		{tracks(free, track(0, 2, 1), free), 5, []int{2, 2, 1}, 0, -1},
		{tracks(free, free, track(0, 2, 1)), 5, []int{2, 2, 1}, 0, -1},
		{tracks(free, free, track(0, 1, 1)), 2, []int{1, 1, 0}, 0, -1},
		{tracks(free, free, track(0, 1, 1)), 3, []int{1, 1, 1}, 0, -1},
		// 7 * 3 is one below 11 * 2: 5 and 1 by rounding down, and the one that is left over goes to the first one, whichever it is
		{tracks(track(0, 0, 8), track(0, 2, 3)), 7, []int{6, 1}, 0, -1},
		{tracks(track(0, 2, 3), track(0, 0, 8)), 7, []int{2, 5}, 0, -1},
		// what is left over goes, one each, to the first ones that still take part: not to those that do not grow, nor to those that have their top
		{tracks(free, free, free), 3, []int{1, 1, 1}, 0, -1},
		{tracks(free, free, free), 4, []int{2, 1, 1}, 0, -1},
		{tracks(track(5, 0, 0), free, free, free), 7, []int{5, 1, 1, 0}, 5, -1},
		{tracks(track(0, 1, 1), free, free), 6, []int{1, 3, 2}, 0, -1},
		{tracks(free, track(0, 1, 1), free), 6, []int{3, 1, 2}, 0, -1},
		{tracks(track(3, 3, 4), free, free), 6, []int{3, 2, 1}, 3, -1},
		{tracks(free, two, three), 1, []int{1, 0, 0}, 0, -1},
		{tracks(free, two, three), 5, []int{1, 2, 2}, 0, -1},
		{tracks(free, two, three), 11, []int{2, 4, 5}, 0, -1},
		{tracks(three, two, free), 11, []int{6, 4, 1}, 0, -1},
		{tracks(free, two, three), 12, []int{2, 4, 6}, 0, -1},
		// the ends of all numbers
		{tracks(track(0, 0, side), free), room2, []int{room2 - 1, 1}, 0, -1},
		{tracks(free, track(0, 0, side)), room2, []int{2, room2 - 2}, 0, -1},
		{tracks(track(0, side, 1), track(0, side, side)), room2, []int{side, side}, 0, room2},
		{tracks(track(0, side, 1), track(0, side, side)), side, []int{1, side - 1}, 0, room2},
		{tracks(track(side, side, side), track(side, 0, 0)), room2, []int{side, side}, room2, room2},
		{tracks(track(side, 0, 1), track(side, 0, 1), free), room2, []int{side, side, 0}, room2, -1},
		{tracks(track(side, 0, 1), track(side, 0, 1), track(1, 0, 1)), room2, []int{side, side, 1}, room2 + 1, -1},
		// the most: any, if one grower's top is any, wherever it stands; a top of any of one that does not grow is none
		{tracks(free, track(2, 9, 1), track(1, 4, 0)), 3, []int{0, 2, 1}, 3, -1},
		{tracks(track(2, 9, 1), free, track(1, 4, 0)), 3, []int{2, 0, 1}, 3, -1},
		{tracks(track(2, 9, 1), track(1, 4, 0), free), 3, []int{2, 1, 0}, 3, -1},
		{tracks(track(2, 9, 1), track(1, 0, 0), track(0, 0, 0)), 3, []int{2, 1, 0}, 3, 10},
	} {
		if got, e := Share(x.l, x.room); !slices.Equal(got, x.want) || e != api.OK {
			t.Errorf("Share %d: %v, %d", i, got, e)
		}
		if got := modelShare(x.l, x.room); !slices.Equal(got, x.want) {
			t.Errorf("the model of Share %d: %v", i, got)
		}
		if got, e := Need(x.l); got != x.need || e != api.OK {
			t.Errorf("Need %d: %d, %d", i, got, e)
		}
		if got, e := Most(x.l); got != x.most || e != api.OK {
			t.Errorf("Most %d: %d, %d", i, got, e)
		}
	}
}

// P10.1, P10.2, P10.4: as many tracks as there may be, with the greatest numbers.
func TestManyTracks(t *testing.T) {
	n := api.MaxNodes
	for i, x := range []struct {
		one              api.Track
		room, need, most int
		first, last      int // what the first and the last track have
	}{
		{track(side, side, side), room2, n * side, n * side, side, side},
		{track(side, 0, side), room2, n * side, -1, side, side},
		{track(0, side, side), room2, 0, n * side, room2 / n, room2 / n},
		{track(0, 0, side), room2 - 1, 0, -1, room2 / n, room2/n - 1},
		{track(0, 0, 1), 1, 0, -1, 1, 0},
		{track(1, 2, 1), n + 1, n, 2 * n, 2, 1},
		{track(1, 2, 1), 2*n - 1, n, 2 * n, 2, 1},
		{track(1, 2, 1), 2 * n, n, 2 * n, 2, 2},
		{track(1, 2, 1), room2, n, 2 * n, 2, 2},
	} {
		l := slices.Repeat([]api.Track{x.one}, n)
		got, e := Share(l, x.room)
		if e != api.OK || len(got) != n || got[0] != x.first || got[n-1] != x.last || !slices.Equal(got, modelShare(l, x.room)) {
			t.Errorf("Share %d: %v, %d", i, got, e)
		}
		if need, e := Need(l); need != x.need || e != api.OK {
			t.Errorf("Need %d: %d, %d", i, need, e)
		}
		if most, e := Most(l); most != x.most || e != api.OK {
			t.Errorf("Most %d: %d, %d", i, most, e)
		}
		sizes, starts, e := Row(l, side, x.room)
		if e != api.OK || sizes[n-1] != x.one.Min || starts[n-1] != (n-1)*(side+x.one.Min) {
			t.Errorf("Row %d: %d", i, e)
		}
	}
}

// P10.1: growers that get their top one behind the other, each in a round of its own: the Grow of each is half that of the one ahead, and its top lies just above the level at which the one ahead was filled.
func TestRounds(t *testing.T) {
	l := tracks(track(0, 0, 4))
	left, g, lastLeft, lastG := room2, side, 0, side
	want := []int{0}
	for grow := side / 2; grow >= 4; grow /= 2 {
		top := grow*lastLeft/lastG + 1
		l, want = append(l, track(0, top, grow)), append(want, top)
		lastLeft, lastG = left, g
		left, g = left-top, g-grow
	}
	want[0] = left
	for range 2 {
		got, e := Share(l, room2)
		if !slices.Equal(got, want) || e != api.OK {
			t.Errorf("%v, %d; %v", got, e, want)
		}
		if model, rounds := modelShareWords(l, room2); !slices.Equal(model, want) || rounds != len(l)-1 {
			t.Errorf("by the words %v in %d rounds", model, rounds)
		}
		slices.Reverse(l)
		slices.Reverse(want)
	}
}

// P10.3
func TestStarts(t *testing.T) {
	for i, x := range []struct {
		sizes []int
		gap   int
		want  []int
		e     api.Errno
	}{
		{[]int{3, 0, 2}, 1, []int{0, 4, 5}, api.OK},
		{nil, side + 1, nil, api.ErrArg},
		// no sizes, one, and those of 0
		{nil, 0, nil, api.OK},
		{[]int{}, side, nil, api.OK},
		{[]int{7}, 9, []int{0}, api.OK},
		{[]int{0, 0, 0}, 0, []int{0, 0, 0}, api.OK},
		{[]int{0, 0, 0}, 2, []int{0, 2, 4}, api.OK},
		{[]int{1, 2, 3}, 0, []int{0, 1, 3}, api.OK},
		// the ends of sizes and of the gap
		{[]int{-1}, 0, nil, api.ErrArg},
		{[]int{room2}, 0, []int{0}, api.OK},
		{[]int{room2, room2, 1}, side, []int{0, 3 * side, 6 * side}, api.OK},
		{[]int{room2 + 1}, 0, nil, api.ErrArg},
		{[]int{1, 2, -1}, 0, nil, api.ErrArg},
		{[]int{1, room2 + 1, 2}, 0, nil, api.ErrArg},
		{[]int{math.MaxInt, math.MinInt}, 0, nil, api.ErrArg},
		{[]int{math.MinInt}, 0, nil, api.ErrArg},
		{[]int{1, 2}, -1, nil, api.ErrArg},
		{[]int{1, 2}, side, []int{0, side + 1}, api.OK},
		{[]int{1, 2}, side + 1, nil, api.ErrArg},
		{nil, -1, nil, api.ErrArg},
		{nil, math.MinInt, nil, api.ErrArg},
		{nil, math.MaxInt, nil, api.ErrArg},
		// too many, ahead of what each one is, and of the gap
		{make([]int, api.MaxNodes+1), 0, nil, api.ErrMany},
		{slices.Repeat([]int{-1}, api.MaxNodes+1), -1, nil, api.ErrMany},
	} {
		if got, e := Starts(x.sizes, x.gap); !slices.Equal(got, x.want) || e != x.e {
			t.Errorf("Starts %d: %v, %d", i, got, e)
		}
	}
	got, e := Starts(slices.Repeat([]int{room2}, api.MaxNodes), side)
	if e != api.OK || len(got) != api.MaxNodes {
		t.Fatalf("as many as there may be: %d, %d", len(got), e)
	}
	for i, at := range got {
		if at != i*(room2+side) {
			t.Fatalf("the one of the number %d begins at %d", i, at)
		}
	}
}

// P10.4: Row's answers, and that it leaves 0 where gaps use up all room.
func TestRow(t *testing.T) {
	two := tracks(track(1, 0, 1), track(1, 0, 1))
	three := tracks(track(2, 0, 0), track(1, 4, 1), track(1, 0, 2))
	for i, x := range []struct {
		l             []api.Track
		gap, room     int
		sizes, starts []int
	}{
		{two, 2, 10, []int{4, 4}, []int{0, 6}},
		{two, 30, 10, []int{1, 1}, []int{0, 31}},
		// no track, and one, which no gap stands beside
		{nil, 0, 0, nil, nil},
		{nil, side, room2, nil, nil},
		{tracks(), 3, 9, nil, nil},
		{tracks(track(1, 0, 1)), 0, 9, []int{9}, []int{0}},
		{tracks(track(1, 0, 1)), side, 9, []int{9}, []int{0}},
		{tracks(track(1, 0, 1)), side, 0, []int{1}, []int{0}},
		{tracks(track(1, 0, 1)), side, room2, []int{room2}, []int{0}},
		{tracks(track(1, 3, 1)), 5, 9, []int{3}, []int{0}},
		// no gap, and gaps that leave more than the need, one more, just it, one less
		{two, 0, 9, []int{5, 4}, []int{0, 5}},
		{two, 1, 10, []int{5, 4}, []int{0, 6}},
		{two, 7, 10, []int{2, 1}, []int{0, 9}},
		{two, 8, 10, []int{1, 1}, []int{0, 9}},
		{two, 9, 10, []int{1, 1}, []int{0, 10}},
		// gaps that use up just all room, and more
		{two, 10, 10, []int{1, 1}, []int{0, 11}},
		{two, 11, 10, []int{1, 1}, []int{0, 12}},
		{two, side, 0, []int{1, 1}, []int{0, side + 1}},
		{two, 0, 0, []int{1, 1}, []int{0, 1}},
		{two, side, room2, []int{side / 2, side / 2}, []int{0, side + side/2}},
		// two gaps among three, with one that does not grow and one that gets its top
		{three, 0, 12, []int{2, 4, 6}, []int{0, 2, 6}},
		{three, 1, 14, []int{2, 4, 6}, []int{0, 3, 8}},
		{three, 3, 18, []int{2, 4, 6}, []int{0, 5, 12}},
		{three, 3, 10, []int{2, 1, 1}, []int{0, 5, 9}},
		{three, 3, 11, []int{2, 2, 1}, []int{0, 5, 10}},
		{three, 6, 11, []int{2, 1, 1}, []int{0, 8, 15}},
		// all have their top: the rest of the room stays unused
		{tracks(track(1, 2, 1), track(0, 3, 0)), 1, 20, []int{2, 0}, []int{0, 3}},
	} {
		sizes, starts, e := Row(x.l, x.gap, x.room)
		if !slices.Equal(sizes, x.sizes) || !slices.Equal(starts, x.starts) || e != api.OK {
			t.Errorf("Row %d: %v, %v, %d", i, sizes, starts, e)
		}
	}
}
