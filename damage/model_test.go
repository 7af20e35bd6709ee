package damage

import (
	"slices"

	"casement/api"
	"casement/cells"
	"casement/list"
)

// The models go by the chapter's words, place by place where they can; of other layers they call what the words name: Flat, and Draw.

// modelFlat is a flat stroke.
type modelFlat struct {
	s api.Stroke
	r api.Rect
}

func modelFlats(l []api.Stroke) []modelFlat {
	strokes, at, _ := list.Flat(l)
	var all []modelFlat
	for i := range strokes {
		all = append(all, modelFlat{strokes[i], at[i]})
	}
	return all
}

func modelAlike(a, b modelFlat) bool {
	s, o := a.s, b.s
	return s.Kind == o.Kind && s.Rect == o.Rect && s.Colour == o.Colour && s.Back == o.Back && s.Text == o.Text && s.Node == o.Node && a.r == b.r
}

// modelMiddles are the middles of two lists, both in one.
func modelMiddles(a, b []modelFlat) []modelFlat {
	least := min(len(a), len(b))
	begin := 0
	for begin < least && modelAlike(a[begin], b[begin]) {
		begin++
	}
	end := 0
	for end < least-begin && modelAlike(a[len(a)-1-end], b[len(b)-1-end]) {
		end++
	}
	return append(slices.Clone(a[begin:len(a)-end]), b[begin:len(b)-end]...)
}

func modelHas(r api.Rect, p api.Point) bool {
	return p.X >= r.At.X && p.X <= r.At.X+r.Size.W-1 && p.Y >= r.At.Y && p.Y <= r.At.Y+r.Size.H-1
}

func modelIn(l []api.Rect, p api.Point) bool {
	return slices.ContainsFunc(l, func(r api.Rect) bool { return modelHas(r, p) })
}

// modelPlaces are the places of a rectangle of which ask holds, row by row.
func modelPlaces(r api.Rect, ask func(p api.Point) bool) []api.Point {
	var all []api.Point
	for y := r.At.Y; y < r.At.Y+r.Size.H; y++ {
		for x := r.At.X; x < r.At.X+r.Size.W; x++ {
			if ask(point(x, y)) {
				all = append(all, point(x, y))
			}
		}
	}
	return all
}

// modelPieces are a flat stroke's pieces, each told by its places.
func modelPieces(f modelFlat) [][]api.Point {
	first, last := f.s.Rect.At, point(f.s.Rect.At.X+f.s.Rect.Size.W-1, f.s.Rect.At.Y+f.s.Rect.Size.H-1)
	var asks []func(p api.Point) bool
	switch {
	case f.s.Kind == api.Fill && f.s.Colour.A > 0, f.s.Kind == api.Write && len(f.s.Text) > 0:
		asks = append(asks, func(p api.Point) bool { return true })
	case f.s.Kind == api.Frame && f.s.Colour.A > 0:
		asks = append(asks, func(p api.Point) bool { return p.Y == first.Y }, func(p api.Point) bool { return p.X == first.X }, func(p api.Point) bool { return p.X == last.X }, func(p api.Point) bool { return p.Y == last.Y })
	}
	var all [][]api.Point
	for _, ask := range asks {
		if piece := modelPlaces(f.r, ask); len(piece) > 0 {
			all = append(all, piece)
		}
	}
	return all
}

// modelForm is the form of places: row by row its spans, and the bands of rows with the same ones.
func modelForm(l []api.Point) []api.Rect {
	if len(l) == 0 {
		return nil
	}
	has := map[api.Point]bool{}
	for _, p := range l {
		has[p] = true
	}
	about := modelAbout(l)
	var all, above []api.Rect
	for y := about.At.Y; y < about.At.Y+about.Size.H; y++ {
		var row []api.Rect
		for x := about.At.X; x < about.At.X+about.Size.W; x++ {
			switch {
			case !has[point(x, y)]:
			case has[point(x-1, y)]:
				row[len(row)-1].Size.W++
			default:
				row = append(row, rect(x, y, 1, 1))
			}
		}
		if len(above) > 0 && slices.EqualFunc(above, row, func(a, b api.Rect) bool { return a.At.X == b.At.X && a.Size.W == b.Size.W }) {
			for i := range above {
				all[len(all)-1-i].Size.H++
			}
			continue
		}
		all = append(all, row...)
		above = row
	}
	return all
}

// modelAbout is the least rectangle that has places, at least one.
func modelAbout(l []api.Point) api.Rect {
	byX := func(a, b api.Point) int { return a.X - b.X }
	byY := func(a, b api.Point) int { return a.Y - b.Y }
	first := point(slices.MinFunc(l, byX).X, slices.MinFunc(l, byY).Y)
	last := point(slices.MaxFunc(l, byX).X, slices.MaxFunc(l, byY).Y)
	return rect(first.X, first.Y, last.X-first.X+1, last.Y-first.Y+1)
}

func modelOf(a, b []api.Stroke) []api.Rect {
	var pieces [][]api.Point
	for _, f := range modelMiddles(modelFlats(a), modelFlats(b)) {
		pieces = append(pieces, modelPieces(f)...)
	}
	places := slices.Concat(pieces...)
	form := modelForm(places)
	if len(pieces) > 1024 || len(form) > 1024 {
		return rects(modelAbout(places))
	}
	return form
}

func modelChanged(a, b api.Screen) []api.Rect {
	var places []api.Point
	for i := range a.Cells {
		if a.Cells[i] != b.Cells[i] {
			places = append(places, point(i%a.Size.W, i/a.Size.W))
		}
	}
	form := modelForm(places)
	if len(form) > 1024 {
		return rects(modelAbout(places))
	}
	return form
}

// modelMend makes each cell by itself, on a screen that has no other one: the list lies as much elsewhere.
func modelMend(s api.Screen, l []api.Stroke, r []api.Rect) api.Screen {
	out := api.Screen{Size: s.Size, Cells: slices.Clone(s.Cells)}
	for i := range out.Cells {
		p := point(i%s.Size.W, i/s.Size.W)
		if !modelIn(r, p) {
			continue
		}
		there := slices.Clone(l)
		for j := range there {
			if there[j].Kind != api.Open {
				there[j].Rect.At = point(there[j].Rect.At.X-p.X, there[j].Rect.At.Y-p.Y)
			}
		}
		one, e := cells.Draw(api.Screen{Size: size(1, 1), Cells: []api.Cell{{Rune: ' '}}}, there)
		if e != api.OK {
			panic(e)
		}
		out.Cells[i] = one.Cells[0]
	}
	return out
}

// modelNodes asks of each node, one by one, whether its flat strokes in a can be struck out of those in b, and nothing is left.
func modelNodes(a, b []api.Stroke) []int {
	f, g := modelFlats(a), modelFlats(b)
	var asked []int
	for _, x := range slices.Concat(f, g) {
		asked = append(asked, x.s.Node)
	}
	slices.Sort(asked)
	var all []int
	for _, n := range slices.Compact(asked) {
		of := func(l []modelFlat) []modelFlat {
			return slices.DeleteFunc(slices.Clone(l), func(x modelFlat) bool { return x.s.Node != n })
		}
		left, same := of(g), true
		for _, x := range of(f) {
			at := slices.IndexFunc(left, func(y modelFlat) bool { return modelAlike(x, y) })
			if at < 0 {
				same = false
				break
			}
			left = slices.Delete(left, at, at+1)
		}
		if !same || len(left) > 0 {
			all = append(all, n)
		}
	}
	return all
}

// modelShown are the strokes that show at a place, in order.
func modelShown(l []api.Stroke, p api.Point) []api.Stroke {
	var all []api.Stroke
	for _, f := range modelFlats(l) {
		if slices.ContainsFunc(modelPieces(f), func(piece []api.Point) bool { return slices.Contains(piece, p) }) {
			all = append(all, f.s)
		}
	}
	return all
}
