package list

import (
	"slices"

	"casement/api"
	"casement/geom"
)

// cut appends a Clip of q, the strokes of a list but those of whose pieces none has a place in q, and an Open.
func cut(to, l []api.Stroke, all [][]api.Rect, q api.Rect) []api.Stroke {
	inside := func(piece api.Rect) bool { return geom.Over(piece, q) }
	to = append(to, api.Stroke{Kind: api.Clip, Rect: q})
	for i, s := range l {
		if !draws(s) || slices.ContainsFunc(all[i], inside) {
			to = append(to, s)
		}
	}
	return append(to, api.Stroke{Kind: api.Open})
}

// busy is strokes without idle pairs; they are the caller's own, and are written over.
func busy(l []api.Stroke) []api.Stroke {
	kept, next := l[:0], 0
again:
	for next < len(l) && !closesIdle(kept, l[next]) {
		kept = append(kept, l[next])
		next++
	}
	if next < len(l) {
		// What stood about the pair comes together now, and may be one itself.
		kept = kept[:len(kept)-1]
		next++
		goto again
	}
	return kept
}

// closesIdle tells whether a stroke is the Open of a Clip that ends what is ahead of it.
func closesIdle(ahead []api.Stroke, s api.Stroke) bool {
	n := len(ahead)
	return s.Kind == api.Open && n > 0 && ahead[n-1].Kind == api.Clip
}
