package colour

import (
	"math"

	"casement/api"
)

// Where the palette of 256 goes on: behind the palette of 16 stand the levels, then the greys.
const (
	firstLevels = 16
	firstGrey   = 232
	allColours  = 256
)

// few has the palette of 16: R, G and B, a byte each.
var few = [firstLevels]uint32{
	0x000000, 0x800000, 0x008000, 0x808000, 0x000080, 0x800080, 0x008080, 0xc0c0c0,
	0x808080, 0xff0000, 0x00ff00, 0xffff00, 0x0000ff, 0xff00ff, 0x00ffff, 0xffffff,
}

// levels has what each part may be between the palette of 16 and the greys.
var levels = [6]uint8{0, 95, 135, 175, 215, 255}

// Back is the colour of a number in the palette of 256, or in that of 16.
func Back(n uint8, many bool) api.Colour {
	if !many {
		n %= firstLevels
	}
	switch {
	case n < firstLevels:
		rgb := few[n]
		return api.Colour{R: uint8(rgb >> 16), G: uint8(rgb >> 8), B: uint8(rgb), A: opaque}
	case n < firstGrey:
		n -= firstLevels
		return api.Colour{R: levels[n/36], G: levels[n/6%6], B: levels[n%6], A: opaque}
	}
	n -= firstGrey
	n *= 10
	n += 8
	return api.Colour{R: n, G: n, B: n, A: opaque}
}

// Sixteen is the number of the nearest colour of the palette of 16.
func Sixteen(c api.Colour) uint8 { return nearest(c, firstLevels, false) }

// Many is the number of the nearest colour of the palette of 256.
func Many(c api.Colour) uint8 { return nearest(c, allColours, true) }

// nearest is the number of the colour of a palette that is least far from c, the first of several.
func nearest(c api.Colour, count int, many bool) uint8 {
	c = onBlack(c)
	best, least := 0, math.MaxInt
	for n := range count {
		if d := far(c, Back(uint8(n), many)); d < least {
			best, least = n, d
		}
	}
	return uint8(best)
}

// far is how far two opaque colours are apart.
func far(a, b api.Colour) int {
	d := 2 * square(a.R, b.R)
	d += 4 * square(a.G, b.G)
	d += 3 * square(a.B, b.B)
	return d
}

// square is that of what lies between two parts.
func square(x, y uint8) int {
	d := int(x)
	d -= int(y)
	return d * d
}
