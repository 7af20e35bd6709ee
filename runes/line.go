package runes

// line is a line of a paragraph, from one byte up to another one.
type line struct {
	from, to int
	cells    int
	cut      int // the end of its last blank; where it begins, if it has none
	cutCells int // its cells up to there
}

// folded is a paragraph in lines of at most so much room.
func folded(paragraph string, room int) []line {
	var all []line
	var now line
	for p := range pieces(paragraph) {
		for !now.fits(p, room) { // again, as what was carried to the next line may have no room for it either
			var whole line
			whole, now = now.parted(p)
			all = append(all, whole)
		}
		now = now.with(p)
	}
	return append(all, now)
}

// fits tells whether a line takes a piece: its first one it takes, whatever it is.
func (l line) fits(p piece, room int) bool {
	return l.from == l.to || l.cells+p.cells <= room
}

// with is a line and the piece behind it.
func (l line) with(p piece) line {
	l.to = p.to
	l.cells += p.cells
	if p.first == blank {
		l.cut, l.cutCells = l.to, l.cells
	}
	return l
}

// parted is what stays of a line for which a piece is too wide, and what the next line begins with.
func (l line) parted(p piece) (line, line) {
	if p.first == blank || l.cut == l.from {
		return l, line{from: p.from, to: p.from, cut: p.from}
	}
	stays := line{from: l.from, to: l.cut, cells: l.cutCells}
	goes := line{from: l.cut, to: l.to, cells: l.cells - l.cutCells, cut: l.cut}
	return stays, goes
}
