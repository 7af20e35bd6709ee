package list

import (
	"slices"

	"casement/api"
)

// The models go by the chapter's words, place by place, and call no other layer (but for the form of a region, which the words name). They see the places of a small board alone.

const (
	boardFrom = -3
	boardTo   = 13
)

func board(visit func(p api.Point)) {
	for y := boardFrom; y < boardTo; y++ {
		for x := boardFrom; x < boardTo; x++ {
			visit(point(x, y))
		}
	}
}

func modelHas(r api.Rect, p api.Point) bool {
	return p.X >= r.At.X && p.X <= r.At.X+r.Size.W-1 && p.Y >= r.At.Y && p.Y <= r.At.Y+r.Size.H-1
}

func modelRect(r api.Rect) bool {
	for _, way := range [][2]int{{r.At.X, r.Size.W}, {r.At.Y, r.Size.H}} {
		if way[1] < 0 || way[1] > 2*side || way[0] < -side || way[0] > side || way[0]+way[1] > side {
			return false
		}
	}
	return true
}

func modelStroke(s api.Stroke) api.Errno {
	none := api.Colour{}
	rules := []bool{
		s.Kind == 1 || s.Kind == 2 || s.Kind == 3 || s.Kind == 4 || s.Kind == 5,
		s.Node >= 0 && s.Node <= 1048576,
		len(s.Text) <= 65536,
		s.Text == "" || s.Kind == 3,
		s.Back == none || s.Kind == 3,
		s.Colour == none || s.Kind != 4 && s.Kind != 5,
		s.Rect == api.Rect{} || s.Kind != 5,
	}
	switch {
	case slices.Contains(rules, false):
		return api.ErrArg
	case !modelRect(s.Rect):
		return api.ErrRect
	}
	return api.OK
}

func modelCheck(l []api.Stroke) api.Errno {
	if len(l) > 16384 {
		return api.ErrMany
	}
	for i, s := range l {
		if e := modelStroke(s); e != api.OK {
			return e
		}
		if s.Kind == api.Open && len(modelClips(l, i)) == 0 {
			return api.ErrClip
		}
	}
	if len(modelClips(l, len(l))) > 0 {
		return api.ErrClip
	}
	return api.OK
}

// modelClips are the clips that are open at a place of a list, found from there back.
func modelClips(l []api.Stroke, at int) []api.Rect {
	var open []api.Rect
	closed := 0
	for i := at - 1; i >= 0; i-- {
		switch {
		case l[i].Kind == api.Open:
			closed++
		case l[i].Kind == api.Clip && closed > 0:
			closed--
		case l[i].Kind == api.Clip:
			open = append(open, l[i].Rect)
		}
	}
	return open
}

// modelIn tells whether a place lies in the rectangle in which a stroke shows.
func modelIn(l []api.Stroke, at int, p api.Point) bool {
	for _, r := range append(modelClips(l, at), l[at].Rect) {
		if !modelHas(r, p) {
			return false
		}
	}
	return true
}

// modelShows tells whether a stroke shows at a place.
func modelShows(l []api.Stroke, at int, p api.Point) bool {
	if !modelIn(l, at, p) {
		return false
	}
	s := l[at]
	switch s.Kind {
	case api.Fill:
		return s.Colour.A > 0
	case api.Frame:
		last := point(s.Rect.At.X+s.Rect.Size.W-1, s.Rect.At.Y+s.Rect.Size.H-1)
		return s.Colour.A > 0 && (p.X == s.Rect.At.X || p.X == last.X || p.Y == s.Rect.At.Y || p.Y == last.Y)
	case api.Write:
		return s.Text != ""
	}
	return false
}

// modelWhere is, for each stroke, the places of the board that ask holds of.
func modelWhere(l []api.Stroke, ask func(l []api.Stroke, at int, p api.Point) bool) [][]api.Point {
	all := make([][]api.Point, len(l))
	for i, s := range l {
		if s.Kind == api.Clip || s.Kind == api.Open {
			continue
		}
		board(func(p api.Point) {
			if ask(l, i, p) {
				all[i] = append(all[i], p)
			}
		})
	}
	return all
}

// modelAbout is the rectangle of places of which there are all between the first and the last one.
func modelAbout(l []api.Point) api.Rect {
	if len(l) == 0 {
		return api.Rect{}
	}
	first, last := l[0], l[len(l)-1]
	return rect(first.X, first.Y, last.X-first.X+1, last.Y-first.Y+1)
}

func modelFlat(l []api.Stroke) ([]api.Stroke, []api.Rect) {
	var strokes []api.Stroke
	var rects []api.Rect
	for i, where := range modelWhere(l, modelIn) {
		if l[i].Kind <= api.Write {
			strokes, rects = append(strokes, l[i]), append(rects, modelAbout(where))
		}
	}
	return strokes, rects
}

// modelBusy takes one idle pair away after the other, each time from the beginning.
func modelBusy(l []api.Stroke) []api.Stroke {
	for i := 1; i < len(l); i++ {
		if l[i-1].Kind == api.Clip && l[i].Kind == api.Open {
			return modelBusy(slices.Concat(l[:i-1], l[i+1:]))
		}
	}
	return l
}

func modelNorm(l []api.Stroke) []api.Stroke {
	shows, in := modelWhere(l, modelShows), modelWhere(l, modelIn)
	var left []api.Stroke
	for i, s := range l {
		hidden := false
		for j := i + 1; j < len(l); j++ {
			if l[j].Kind == api.Fill && l[j].Colour.A == 255 {
				outside := func(p api.Point) bool { return !slices.Contains(in[j], p) }
				hidden = hidden || !slices.ContainsFunc(shows[i], outside)
			}
		}
		if s.Kind >= api.Clip || len(shows[i]) > 0 && !hidden {
			left = append(left, s)
		}
	}
	return modelBusy(left)
}

func modelWithin(l []api.Stroke, form []api.Rect) []api.Stroke {
	shows := modelWhere(l, modelShows)
	var all []api.Stroke
	for _, q := range form {
		all = append(all, clip(q))
		for i, s := range l {
			inside := func(p api.Point) bool { return modelHas(q, p) }
			if s.Kind >= api.Clip || slices.ContainsFunc(shows[i], inside) {
				all = append(all, s)
			}
		}
		all = append(all, open())
	}
	return modelBusy(all)
}

// modelAt is the strokes that show at a place, in order.
func modelAt(l []api.Stroke, p api.Point) []api.Stroke {
	var all []api.Stroke
	for i, s := range l {
		if s.Kind <= api.Write && modelShows(l, i, p) {
			all = append(all, s)
		}
	}
	return all
}

// modelSeen is what is left of strokes that show at one place from the last opaque Fill on.
func modelSeen(l []api.Stroke) []api.Stroke {
	for i := len(l) - 1; i >= 0; i-- {
		if l[i].Kind == api.Fill && l[i].Colour.A == 255 {
			return l[i:]
		}
	}
	return l
}
