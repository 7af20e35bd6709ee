package flex

import (
	"cmp"
	"slices"

	"casement/api"
)

// leastOf is the least of several numbers.
func leastOf[N cmp.Ordered](least N, others ...N) N {
	for _, n := range others {
		if n < least {
			least = n
		}
	}
	return least
}

func grows(t api.Track) bool {
	return t.Grow > 0
}

// lacks is what a grower's top is above its Min; has is false where it may have any number, so that it never has enough.
func lacks(t api.Track) (lack int, has bool) {
	if t.Max == 0 {
		return 0, false
	}
	return t.Max - t.Min, true
}

func need(l []api.Track) int {
	sum := 0
	for _, t := range l {
		sum += t.Min
	}
	return sum
}

// sharing is a room on its way to the tracks.
type sharing struct {
	tracks []api.Track
	sizes  []int // what each track has so far
	open   []int // the growers that still take part, by their numbers
	left   int   // what nobody has so far
}

// share is Share of tracks and a room that may be.
func share(l []api.Track, room int) []int {
	// A room below the need leaves nothing: then nobody gets more than Min, whoever takes part.
	s := sharing{tracks: l, sizes: make([]int, len(l)), left: room - leastOf(room, need(l))}
	for i, t := range l {
		s.sizes[i] = t.Min
		if grows(t) {
			s.open = append(s.open, i)
		}
	}
	for s.fill() {
	}
	s.settle()
	return s.sizes
}

// grow is the Grow of all that still take part.
func (s *sharing) grow() int {
	sum := 0
	for _, i := range s.open {
		sum += s.tracks[i].Grow
	}
	return sum
}

// fill gives their top to all that would get as much by their Grow, and tells whether there were such: only then is there more for those that still take part.
func (s *sharing) fill() bool {
	// All are held against what was left ahead of the first one, so that it doesn't matter who comes first.
	left, g, before := s.left, s.grow(), len(s.open)
	s.open = slices.DeleteFunc(s.open, func(i int) bool {
		t := s.tracks[i]
		lack, has := lacks(t)
		if !has || left*t.Grow < g*lack {
			return false
		}
		s.sizes[i] += lack
		s.left -= lack
		return true
	})
	return len(s.open) < before
}

// settle shares what is left among those that never get their top.
func (s *sharing) settle() {
	left, g := s.left, s.grow()
	for _, i := range s.open {
		more := left * s.tracks[i].Grow / g
		s.sizes[i] += more
		s.left -= more
	}
	// Rounding down leaves less than one for each of them.
	for _, i := range s.open {
		one := leastOf(s.left, 1)
		s.sizes[i] += one
		s.left -= one
	}
}
