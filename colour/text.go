package colour

import (
	"casement/api"
)

const (
	mark   = '#'
	digits = "0123456789abcdef"
)

// How many sixteens a colour's text may have.
const (
	oneEach      = 3
	twoEach      = 6
	twoEachWithA = 8
)

// Parse reads #rgb, #rrggbb, #rrggbbaa; beside an error it tells the first byte with which s is not the beginning of such a text.
func Parse(s string) (api.Colour, int, api.Errno) {
	at := belonging(s)
	if at < len(s) {
		return api.Colour{}, at, api.ErrColour
	}
	switch at - 1 {
	case oneEach:
		return read(s[1:], 1), 0, api.OK
	case twoEach, twoEachWithA:
		return read(s[1:], 2), 0, api.OK
	}
	return api.Colour{}, at, api.ErrColour
}

// belonging is how many bytes at the beginning of s could begin a colour's text.
func belonging(s string) int {
	for at := range len(s) {
		if !belongs(s[at], at) {
			return at
		}
	}
	return len(s)
}

// belongs tells whether a byte may stand at this place of a colour's text.
func belongs(b byte, at int) bool {
	if at == 0 {
		return b == mark
	}
	return at <= twoEachWithA && isSixteen(b)
}

// isSixteen tells whether a byte is a sixteen.
func isSixteen(b byte) bool {
	return b >= '0' && b <= '9' || b >= 'a' && b <= 'f' || b >= 'A' && b <= 'F'
}

// value is what a sixteen stands for.
func value(b byte) uint8 {
	switch {
	case b >= 'a':
		b -= 'a' - 10
	case b >= 'A':
		b -= 'A' - 10
	default:
		b -= '0'
	}
	return b
}

// read is the colour of sixteens, one or two to a part.
func read(sixteens string, each int) api.Colour {
	parts := [4]uint8{3: opaque}
	for i := range len(sixteens) {
		part := &parts[i/each]
		*part <<= 4 // two of them push out what stood in the byte
		*part |= value(sixteens[i])
	}
	c := api.Colour{R: parts[0], G: parts[1], B: parts[2], A: parts[3]}
	if each == 1 {
		c.R |= c.R << 4
		c.G |= c.G << 4
		c.B |= c.B << 4
	}
	return c
}

// Text writes a colour, in as few sixteens as Parse can read it from.
func Text(c api.Colour) string {
	text := []byte{mark}
	if c.A == opaque && isTwice(c.R) && isTwice(c.G) && isTwice(c.B) {
		return string(append(text, low(c.R), low(c.G), low(c.B)))
	}
	text = append(text, high(c.R), low(c.R), high(c.G), low(c.G), high(c.B), low(c.B))
	if c.A != opaque {
		text = append(text, high(c.A), low(c.A))
	}
	return string(text)
}

// isTwice tells whether both sixteens of a part are alike.
func isTwice(part uint8) bool { return high(part) == low(part) }

// high is the first sixteen of a part, low the second one.
func high(part uint8) byte { return digits[part>>4] }
func low(part uint8) byte  { return digits[part&15] }
