package flex

import (
	"math"
	"slices"
	"testing"

	"casement/api"
)

// P10.1, P10.2, P10.4: which tracks may be, asked of all calls that are handed such.
func TestWhichTracksMayBe(t *testing.T) {
	for i, x := range []struct {
		l []api.Track
		e api.Errno
	}{
		{nil, api.OK},
		{tracks(), api.OK},
		{tracks(track(0, 0, 0)), api.OK},
		// Min
		{tracks(track(-1, 0, 0)), api.ErrFlex},
		{tracks(track(-1, 5, 1)), api.ErrFlex},
		{tracks(track(side, 0, 0)), api.OK},
		{tracks(track(side, side, 0)), api.OK},
		{tracks(track(side+1, 0, 0)), api.ErrFlex},
		{tracks(track(side+1, side+1, 0)), api.ErrFlex},
		{tracks(track(math.MinInt, 0, 0)), api.ErrFlex},
		{tracks(track(math.MaxInt, 0, 0)), api.ErrFlex},
		// Max
		{tracks(track(0, -1, 0)), api.ErrFlex},
		{tracks(track(-2, -1, 0)), api.ErrFlex},
		{tracks(track(0, 1, 0)), api.OK},
		{tracks(track(7, 0, 0)), api.OK},
		{tracks(track(7, 6, 0)), api.ErrFlex},
		{tracks(track(7, 1, 3)), api.ErrFlex},
		{tracks(track(7, 7, 0)), api.OK},
		{tracks(track(7, 8, 0)), api.OK},
		{tracks(track(7, side, 0)), api.OK},
		{tracks(track(7, side+1, 0)), api.ErrFlex},
		{tracks(track(0, math.MinInt, 0)), api.ErrFlex},
		{tracks(track(0, math.MaxInt, 0)), api.ErrFlex},
		// Grow
		{tracks(track(1, 2, -1)), api.ErrFlex},
		{tracks(track(1, 2, side)), api.OK},
		{tracks(track(1, 2, side+1)), api.ErrFlex},
		{tracks(track(1, 2, math.MinInt)), api.ErrFlex},
		{tracks(track(1, 2, math.MaxInt)), api.ErrFlex},
		// any of them
		{tracks(track(0, -1, 0), track(1, 0, 1)), api.ErrFlex},
		{tracks(track(1, 0, 1), track(0, 0, -1), track(1, 0, 1)), api.ErrFlex},
		{tracks(track(1, 0, 1), track(2, 0, 1), track(5, 4, 0)), api.ErrFlex},
		// how many, ahead of what each one is
		{make([]api.Track, api.MaxNodes), api.OK},
		{make([]api.Track, api.MaxNodes+1), api.ErrMany},
		{slices.Repeat(tracks(track(1, 1, 1)), api.MaxNodes), api.OK},
		{slices.Repeat(tracks(track(-1, 0, 0)), api.MaxNodes), api.ErrFlex},
		{slices.Repeat(tracks(track(-1, 0, 0)), api.MaxNodes+1), api.ErrMany},
		{append(make([]api.Track, api.MaxNodes-1), track(0, 0, -1)), api.ErrFlex},
	} {
		refuses(t, i, x.l, x.e)
	}
}

// refuses asks for an error of tracks ahead of those of all other arguments, with nothing beside it.
func refuses(t *testing.T, i int, l []api.Track, want api.Errno) {
	t.Helper()
	if got, e := Need(l); e != want || e != api.OK && got != 0 {
		t.Errorf("Need %d: %d, %d", i, got, e)
	}
	if got, e := Most(l); e != want || e != api.OK && got != 0 {
		t.Errorf("Most %d: %d, %d", i, got, e)
	}
	for _, room := range []int{-1, 0, 9, room2, room2 + 1, math.MinInt, math.MaxInt} {
		behind := want
		if want == api.OK && (room < 0 || room > room2) {
			behind = api.ErrArg
		}
		if got, e := Share(l, room); e != behind || e != api.OK && got != nil || e == api.OK && len(got) != len(l) {
			t.Errorf("Share %d, %d: %d sizes, %d", i, room, len(got), e)
		}
		for _, gap := range []int{-1, 0, 3, side, side + 1, math.MinInt, math.MaxInt} {
			last := behind
			if want == api.OK && (gap < 0 || gap > side) {
				last = api.ErrArg
			}
			sizes, starts, e := Row(l, gap, room)
			if e != last || e != api.OK && (sizes != nil || starts != nil) || e == api.OK && (len(sizes) != len(l) || len(starts) != len(l)) {
				t.Errorf("Row %d, %d, %d: %d sizes, %d starts, %d", i, gap, room, len(sizes), len(starts), e)
			}
		}
	}
}
