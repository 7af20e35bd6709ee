package vector

import (
	"strings"
)

const (
	sixteens = "0123456789abcdef"

	mark       = '&' // begins a byte that does not stand as it is
	end        = ';' // ends it
	markedSize = 4   // bytes of one: both, and two sixteens
)

// stands tells whether a byte stands as it is in an escaped text.
func stands(b byte) bool {
	switch b {
	case mark, '<', '>', '"':
		return false
	}
	return b > 32 && b < 127
}

// appendEscaped appends a text to another one, escaped.
func appendEscaped(text []byte, s string) []byte {
	for i := range len(s) {
		if b := s[i]; stands(b) {
			text = append(text, b)
		} else {
			text = append(text, mark, sixteens[b>>4], sixteens[b&15], end)
		}
	}
	return text
}

// firstByte is the first byte of what was escaped, and how many bytes of the escaped text, which is not empty, tell it: 0, if they are wrong.
func firstByte(s string) (byte, int) {
	if stands(s[0]) {
		return s[0], 1
	}
	if len(s) < markedSize || s[0] != mark || s[3] != end {
		return 0, 0
	}
	high, low := strings.IndexByte(sixteens, s[1]), strings.IndexByte(sixteens, s[2])
	if high < 0 || low < 0 {
		return 0, 0
	}
	b := byte(high<<4 | low)
	// Each byte is escaped in one way alone, so that a text that is read is just what is written of it.
	if stands(b) {
		return 0, 0
	}
	return b, markedSize
}
