package runes

import (
	"iter"
	"unicode"
)

const (
	blank   = ' '
	tab     = '\t'
	lineEnd = '\n'
)

// piece is what stays together: the bytes of a text from one place up to another one.
type piece struct {
	from, to int
	first    rune
	cells    int
}

// Kinds of pieces, for words.
const (
	others = iota
	blanks
	letters
)

// pieces goes through a text's pieces. A piece is known to be whole only when the next one begins, so each is handed on then.
func pieces(s string) iter.Seq[piece] {
	return func(yield func(piece) bool) {
		var p piece
		for at, r := range s {
			if at > 0 && p.takes(r) {
				continue
			}
			p.to = at
			if at > 0 && !yield(p) {
				return
			}
			p = piece{from: at, first: r, cells: Width(r)}
		}
		if s != "" {
			p.to = len(s)
			yield(p)
		}
	}
}

// takes tells whether a rune that follows a piece belongs to it.
func (p piece) takes(r rune) bool { return isMark(r) && !isControl(p.first) }

// kind is that of a piece's first rune.
func (p piece) kind() int {
	switch r := p.first; {
	case r == blank:
		fallthrough
	case r == tab, r == lineEnd:
		return blanks
	case unicode.IsLetter(r):
		fallthrough
	case unicode.IsDigit(r):
		fallthrough
	case r == '_':
		return letters
	}
	return others
}
