package grid

import (
	"casement/api"
	"casement/least"
)

// cell is where a thing stands in its row: from its first column up to the one at end, which it does not have.
type cell struct{ thing, first, end int }

// plan is things put into rows.
type plan struct {
	columns int
	rows    [][]cell
}

// put puts things one behind the other into rows, each of which has at least one.
func put(spans []int, columns int) plan {
	p := plan{columns: counted(columns)}
	next := p.columns // nothing fits behind a full row: the first thing begins one, like any other that does not fit
	for thing, span := range spans {
		span = min(counted(span), p.columns)
		if next+span > p.columns {
			p.rows, next = append(p.rows, nil), 0
		}
		last := len(p.rows) - 1
		p.rows[last] = append(p.rows[last], cell{thing: thing, first: next, end: next + span})
		next += span
	}
	return p
}

// counted is how many columns a number tells: 0 is told for 1.
func counted(n int) int {
	return max(n, 1)
}

// each hands all cells on, with their rows, in the order of the things.
func (p plan) each(use func(row int, c cell)) {
	for row, cells := range p.rows {
		for _, c := range cells {
			use(row, c)
		}
	}
}

// used is how many columns there are up to the last one of any thing.
func (p plan) used() int {
	used := 0
	p.each(func(_ int, c cell) { used = max(used, c.end) })
	return used
}

// widths are the least widths of all columns in which things of such widths find room.
func (p plan) widths(things []int, gap int) ([]int, api.Errno) {
	var bounds []api.Bound
	for column := range p.columns {
		bounds = append(bounds, api.Bound{A: column, B: column + 1})
	}
	p.each(func(_ int, c cell) {
		gaps := gap * (c.end - c.first - 1)
		bounds = append(bounds, api.Bound{A: c.first, B: c.end, Far: things[c.thing] - gaps})
	})
	edges, e := least.Solve(p.columns+1, bounds)
	if e != api.OK {
		return nil, e
	}
	widths := make([]int, p.columns)
	for column := range p.columns {
		widths[column] = edges[column+1] - edges[column]
	}
	return widths, api.OK
}

// heights are the least heights of the rows in which things of such heights find room.
func (p plan) heights(things []int) []int {
	heights := make([]int, len(p.rows))
	p.each(func(row int, c cell) { heights[row] = max(heights[row], things[c.thing]) })
	return heights
}

// sides are the least widths of the used columns, and the least heights of the rows.
func (p plan) sides(sizes []api.Size, gap int) (widths, heights []int, e api.Errno) {
	wide, high := make([]int, len(sizes)), make([]int, len(sizes))
	for thing, size := range sizes {
		wide[thing], high[thing] = size.W, size.H
	}
	widths, e = p.widths(wide, gap)
	if e != api.OK {
		return nil, nil, e
	}
	return widths[:p.used()], p.heights(high), api.OK
}

// tracks are such as share out alike what is more than their least sides.
func tracks(sides []int) []api.Track {
	l := make([]api.Track, len(sides))
	for i, side := range sides {
		l[i] = api.Track{Min: side, Grow: 1}
	}
	return l
}

// together is the room that sides take up with gaps between them.
func together(sides []int, gap int) int {
	room := gap * max(len(sides)-1, 0)
	for _, side := range sides {
		room += side
	}
	return room
}
