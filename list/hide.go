package list

import (
	"slices"

	"casement/api"
	"casement/region"
)

// visible tells of each stroke whether it has pieces, and whether no opaque Fill behind it has all of them.
func visible(l []api.Stroke, all [][]api.Rect) []bool {
	seen := make([]bool, len(l))
	var fills []api.Rect
	for i, s := range slices.Backward(l) {
		// Pieces lie in a rectangle just if the least one about all of them does. (They are few and may be: there is no error.)
		bound, _ := region.Bound(all[i])
		has := func(fill api.Rect) bool { return covers(fill, bound) }
		// A Fill that is hidden itself is not needed: what it hides, the one that hides it does.
		if len(all[i]) == 0 || slices.ContainsFunc(fills, has) {
			continue
		}
		seen[i] = true
		if s.Kind == api.Fill && s.Colour.A == 255 {
			// Nor are those that lie in this one: what they hide of the strokes ahead, this one does.
			fills = slices.DeleteFunc(fills, func(fill api.Rect) bool { return covers(bound, fill) })
			fills = append(fills, bound)
		}
	}
	return seen
}

// covers tells whether a has all of b. Both have places, so geom's In would ask in vain whether they may be, and visible asks this of each two Fills.
func covers(a, b api.Rect) bool {
	return a.At.X <= b.At.X && a.At.Y <= b.At.Y && a.At.X+a.Size.W >= b.At.X+b.Size.W && a.At.Y+a.Size.H >= b.At.Y+b.Size.H
}
