package focus

import (
	"casement/api"
)

// The ways in which one can go.
const (
	left uint8 = iota
	right
	above
	below
)

// nearest is, of an order, the nearest node that is shown and lies a way from another one. That one itself never does: what is shown is at least a cell wide and high.
func nearest(order []int, places []api.Place, node int, way uint8) (int, bool) {
	from := places[node].Rect
	best, least, found := 0, 0, false
	for _, other := range order {
		place := places[other]
		if !place.Shown || !lies(way, from, place.Rect) {
			continue
		}
		if far := distance(way, from, place.Rect); !found || far < least {
			best, least, found = other, far, true
		}
	}
	return best, found
}

// lies tells whether b lies a way from a, by their edges.
func lies(way uint8, a, b api.Rect) bool {
	switch way {
	case left:
		return b.At.X+b.Size.W <= a.At.X
	case right:
		return b.At.X >= a.At.X+a.Size.W
	case above:
		return b.At.Y+b.Size.H <= a.At.Y
	case below:
		return b.At.Y >= a.At.Y+a.Size.H
	}
	return false
}

// distance is how far b is from a for one who goes a way: what lies aside counts twice.
func distance(way uint8, a, b api.Rect) int {
	from, to := middle(a), middle(b)
	across, down := apart(from.X, to.X), apart(from.Y, to.Y)
	if way == left || way == right {
		return across + 2*down
	}
	return down + 2*across
}

// middle is a rectangle's middle, doubled, so that it is a whole number.
func middle(r api.Rect) api.Point {
	return api.Point{X: 2*r.At.X + r.Size.W, Y: 2*r.At.Y + r.Size.H}
}

func apart(a, b int) int {
	return max(a-b, b-a)
}
