package colour

import (
	"strings"
	"testing"

	"casement/api"
)

// modelPalette is the palette of 256 as the document's section 'Words' makes it; the first 16 are the other one.
func modelPalette(t *testing.T) [256]api.Colour {
	t.Helper()
	var l [256]api.Colour
	words := "#000 #800000 #008000 #808000 #000080 #800080 #008080 #c0c0c0 #808080 #f00 #0f0 #ff0 #00f #f0f #0ff #fff"
	for n, s := range strings.Fields(words) {
		c, _, e := modelParse(t, s)
		if e != api.OK {
			t.Fatal(s)
		}
		l[n] = c
	}
	steps := []uint8{0, 95, 135, 175, 215, 255}
	for r := range 6 {
		for g := range 6 {
			for b := range 6 {
				l[16+36*r+6*g+b] = rgba(steps[r], steps[g], steps[b], 255)
			}
		}
	}
	for n := 232; n < 256; n++ {
		l[n] = grey(uint8(8 + 10*(n-232)))
	}
	return l
}

// modelNearest is the number of the first one of a palette than which none is less far from c on black, and how many are as near.
func modelNearest(t *testing.T, c api.Colour, palette []api.Colour) (int, int) {
	t.Helper()
	p := parts(modelOver(t, c, black))
	far := make([]int, len(palette))
	for n, q := range palette {
		o := parts(q)
		far[n] = 2*(p[0]-o[0])*(p[0]-o[0]) + 4*(p[1]-o[1])*(p[1]-o[1]) + 3*(p[2]-o[2])*(p[2]-o[2])
	}
	best, like := 0, 1
	for n := 1; n < len(far); n++ {
		if far[n] < far[best] {
			best, like = n, 1
		} else if far[n] == far[best] {
			like++
		}
	}
	return best, like
}

func TestBack(t *testing.T) {
	for _, c := range []struct {
		n    uint8
		many bool
		want api.Colour
	}{
		{9, false, rgba(255, 0, 0, 255)}, {25, false, rgba(255, 0, 0, 255)},
		{0, false, black}, {15, false, white}, {16, false, black}, {31, false, white}, {255, false, white}, {240, false, black},
		{7, false, grey(0xc0)}, {8, false, grey(0x80)}, {232, false, grey(0x80)}, {1, false, rgba(128, 0, 0, 255)},
		{9, true, rgba(255, 0, 0, 255)}, {15, true, white}, {0, true, black},
		{16, true, black}, {17, true, rgba(0, 0, 95, 255)}, {22, true, rgba(0, 95, 0, 255)}, {52, true, rgba(95, 0, 0, 255)},
		{25, true, rgba(0, 95, 175, 255)}, {196, true, rgba(255, 0, 0, 255)}, {230, true, rgba(255, 255, 215, 255)}, {231, true, white},
		{232, true, grey(8)}, {233, true, grey(18)}, {244, true, grey(0x80)}, {255, true, grey(238)},
	} {
		if got := Back(c.n, c.many); got != c.want {
			t.Errorf("Back(%d, %v) = %v, want %v", c.n, c.many, got, c.want)
		}
	}
	l := modelPalette(t)
	for n := range 256 {
		if got := Back(uint8(n), true); got != l[n] {
			t.Errorf("Back(%d, true) = %v, want %v", n, got, l[n])
		}
		if got := Back(uint8(n), false); got != l[n%16] {
			t.Errorf("Back(%d, false) = %v, want %v", n, got, l[n%16])
		}
	}
}

func TestSixteenAndMany(t *testing.T) {
	for _, c := range []struct {
		c         api.Colour
		few, many uint8
	}{
		{rgba(254, 1, 1, 255), 9, 9}, {rgba(95, 0, 0, 255), 1, 52}, {black, 0, 0}, {white, 15, 15},
		{grey(8), 0, 232}, {grey(238), 15, 255}, {grey(0x80), 8, 8}, {rgba(0, 0, 95, 255), 4, 17}, {rgba(0, 95, 0, 255), 2, 22},
		// Not opaque: on black.
		{rgba(0, 0, 0, 0), 0, 0}, {rgba(255, 255, 255, 0), 0, 0}, {rgba(255, 255, 255, 1), 0, 0},
		{rgba(255, 255, 255, 128), 8, 8}, {rgba(255, 255, 255, 254), 15, 15}, {rgba(255, 0, 0, 128), 1, 1},
		// As far from two: the lesser number.
		{rgba(64, 0, 0, 255), 0, 52}, {rgba(0, 64, 0, 255), 0, 22}, {rgba(0, 0, 64, 255), 0, 17},
		{grey(64), 0, 238}, {grey(63), 0, 237}, {grey(160), 7, 247}, {grey(13), 0, 232}, {grey(4), 0, 0}, {grey(233), 15, 254},
		{rgba(155, 0, 0, 255), 1, 88}, {rgba(0, 155, 0, 255), 2, 28}, {rgba(0, 0, 155, 255), 4, 18},
	} {
		if few, many := Sixteen(c.c), Many(c.c); few != c.few || many != c.many {
			t.Errorf("Sixteen, Many of %v = %d, %d, want %d, %d", c.c, few, many, c.few, c.many)
		}
	}
}

// TestNearest holds many colours against the model, those that lie as far from several of a palette among them.
func TestNearest(t *testing.T) {
	l := modelPalette(t)
	colours := someColours(3000)
	for r := 0; r < 256; r += 16 {
		for g := 0; g < 256; g += 16 {
			for b := 0; b < 256; b += 16 {
				colours = append(colours, rgba(uint8(r), uint8(g), uint8(b), 255))
			}
		}
	}
	for n := range 256 {
		colours = append(colours, grey(uint8(n)), rgba(uint8(n), 0, 0, 255), rgba(0, uint8(n), 0, 255), rgba(0, 0, uint8(n), 255))
	}
	likeFew, likeMany := 0, 0
	for _, c := range colours {
		few, like := modelNearest(t, c, l[:16])
		if like > 1 {
			likeFew++
		}
		many, like := modelNearest(t, c, l[:])
		if like > 1 {
			likeMany++
		}
		if f, m := Sixteen(c), Many(c); int(f) != few || int(m) != many {
			t.Errorf("Sixteen, Many of %v = %d, %d, want %d, %d", c, f, m, few, many)
		}
	}
	if likeFew < 10 || likeMany < 10 {
		t.Errorf("%d and %d colours are as far from several: too few to tell", likeFew, likeMany)
	}
}

// TestPaletteFollows: the colours of the palettes come back, those that stand there twice under the lesser number.
func TestPaletteFollows(t *testing.T) {
	twice := map[int]uint8{16: 0, 21: 12, 46: 10, 51: 14, 196: 9, 201: 13, 226: 11, 231: 15, 244: 8}
	for n := range 256 {
		if got := Sixteen(Back(uint8(n), false)); int(got) != n%16 {
			t.Errorf("Sixteen(Back(%d, false)) = %d", n, got)
		}
		c := Back(uint8(n), true)
		want := uint8(n)
		if lesser, ok := twice[n]; ok {
			want = lesser
		}
		if got := Many(c); got != want || Back(got, true) != c {
			t.Errorf("Many(%v) = %d, which is %v; want %d", c, got, Back(got, true), want)
		}
	}
}
