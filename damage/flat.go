package damage

import (
	"slices"

	"casement/api"
	"casement/geom"
	"casement/list"
)

// flat is a flat stroke. Two of them are alike just if they are equal.
type flat struct {
	stroke api.Stroke
	shown  api.Rect
}

func flatten(l []api.Stroke) ([]flat, api.Errno) {
	strokes, shown, e := list.Flat(l)
	if e != api.OK {
		return nil, e
	}
	all := make([]flat, len(strokes))
	for i, s := range strokes {
		all[i] = flat{s, shown[i]}
	}
	return all, api.OK
}

// middles is what is left of the flat strokes of two lists without those that both have alike at the beginning and at the end.
func middles(a, b []api.Stroke) (old, now []flat, e api.Errno) {
	if old, e = flatten(a); e != api.OK {
		return nil, nil, e
	}
	if now, e = flatten(b); e != api.OK {
		return nil, nil, e
	}
	for len(old) > 0 && len(now) > 0 && old[0] == now[0] {
		old, now = old[1:], now[1:]
	}
	for len(old) > 0 && len(now) > 0 && old[len(old)-1] == now[len(now)-1] {
		old, now = old[:len(old)-1], now[:len(now)-1]
	}
	return old, now, api.OK
}

// surplus tells which flat strokes a and b do not have as many times, and how many times more a has each.
func surplus(a, b []flat) map[flat]int {
	counts := make(map[flat]int)
	for _, f := range a {
		counts[f]++
	}
	for _, f := range b {
		counts[f]--
		if counts[f] == 0 {
			delete(counts, f)
		}
	}
	return counts
}

// pieces is the rectangles of the places at which a flat stroke shows, none of them empty.
func (f flat) pieces() []api.Rect {
	var all []api.Rect
	switch s := f.stroke; {
	case s.Kind == api.Fill && s.Colour.A > 0, s.Kind == api.Write && s.Text != "":
		all = []api.Rect{f.shown}
	case s.Kind == api.Frame && s.Colour.A > 0:
		for _, side := range sides(s.Rect) {
			all = append(all, geom.Meet(f.shown, side))
		}
	}
	return slices.DeleteFunc(all, geom.Empty)
}

// sides is the first row, the first column, the last column and the last row of a rectangle. Those of one without places mean nothing, as it shows nowhere.
func sides(r api.Rect) [4]api.Rect {
	row, column := api.Size{W: r.Size.W, H: 1}, api.Size{W: 1, H: r.Size.H}
	right := api.Point{X: r.At.X + r.Size.W - 1, Y: r.At.Y}
	below := api.Point{X: r.At.X, Y: r.At.Y + r.Size.H - 1}
	return [4]api.Rect{{At: r.At, Size: row}, {At: r.At, Size: column}, {At: right, Size: column}, {At: below, Size: row}}
}
