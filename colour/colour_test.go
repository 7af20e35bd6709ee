package colour

import (
	"math/rand"
	"testing"

	"casement/api"
)

var (
	black = rgba(0, 0, 0, 255)
	white = rgba(255, 255, 255, 255)
)

func rgba(r, g, b, a uint8) api.Colour { return api.Colour{R: r, G: g, B: b, A: a} }

func grey(n uint8) api.Colour { return rgba(n, n, n, 255) }

// parts are a colour's four numbers.
func parts(c api.Colour) [4]int { return [4]int{int(c.R), int(c.G), int(c.B), int(c.A)} }

// ofParts is the colour of four numbers, each of which must be one that a colour may have.
func ofParts(t *testing.T, p [4]int) api.Colour {
	t.Helper()
	for _, n := range p {
		if n < 0 || n > 255 {
			t.Fatalf("the model's parts %v", p)
		}
	}
	return rgba(uint8(p[0]), uint8(p[1]), uint8(p[2]), uint8(p[3]))
}

// between tells whether n lies between x and y, whichever is the greater one.
func between(n, x, y int) bool { return n >= min(x, y) && n <= max(x, y) }

// alphas are the A at which something turns.
func alphas() []uint8 { return []uint8{0, 1, 127, 128, 254, 255} }

// someColours are the corners of all colours, and random ones.
func someColours(n int) []api.Colour {
	var l []api.Colour
	ends := []uint8{0, 1, 128, 254, 255}
	for _, r := range ends {
		for _, g := range ends {
			for _, b := range ends {
				for _, a := range ends {
					l = append(l, rgba(r, g, b, a))
				}
			}
		}
	}
	dice := rand.New(rand.NewSource(4))
	for range n {
		word := dice.Uint32()
		l = append(l, rgba(uint8(word>>24), uint8(word>>16), uint8(word>>8), uint8(word)))
	}
	return l
}

// The models say what P4.3, P4.4 and P4.6 say, with whole numbers, word by word.

func modelOver(t *testing.T, above, below api.Colour) api.Colour {
	t.Helper()
	a, b := parts(above), parts(below)
	if a[3] == 0 {
		return below
	}
	n := 255*a[3] + (255-a[3])*b[3]
	var c [4]int
	for i := range 3 {
		c[i] = (255*a[3]*a[i] + (255-a[3])*b[3]*b[i] + n/2) / n
	}
	c[3] = (n + 127) / 255
	return ofParts(t, c)
}

func modelMix(t *testing.T, from, to api.Colour, part uint8) api.Colour {
	t.Helper()
	a, b := parts(from), parts(to)
	var c [4]int
	for i := range 4 {
		c[i] = (a[i]*(255-int(part)) + b[i]*int(part) + 127) / 255
	}
	return ofParts(t, c)
}

func modelLight(t *testing.T, c api.Colour) int {
	t.Helper()
	p := parts(modelOver(t, c, black))
	return (2126*p[0] + 7152*p[1] + 722*p[2]) * 20 / 51
}

func modelClear(t *testing.T, a, b api.Colour) bool {
	t.Helper()
	f := modelOver(t, b, black)
	l, m := modelLight(t, f), modelLight(t, modelOver(t, a, f))
	if l < m {
		l, m = m, l
	}
	return 10*(l+50000) >= 45*(m+50000)
}

func TestOver(t *testing.T) {
	for _, c := range []struct{ a, b, want api.Colour }{
		{rgba(255, 0, 0, 128), rgba(0, 0, 255, 255), rgba(128, 0, 127, 255)},
		{rgba(9, 9, 9, 0), rgba(1, 2, 3, 4), rgba(1, 2, 3, 4)},
		{rgba(10, 20, 30, 255), rgba(1, 2, 3, 4), rgba(10, 20, 30, 255)},
		{rgba(9, 8, 7, 0), rgba(6, 5, 4, 0), rgba(6, 5, 4, 0)},
		{rgba(9, 8, 7, 0), black, black},
		{rgba(9, 8, 7, 1), rgba(200, 100, 50, 0), rgba(9, 8, 7, 1)},
		{rgba(9, 8, 7, 254), rgba(200, 100, 50, 0), rgba(9, 8, 7, 254)},
		{rgba(255, 255, 255, 1), black, rgba(1, 1, 1, 255)},
		{rgba(255, 255, 255, 254), black, rgba(254, 254, 254, 255)},
		{rgba(0, 0, 0, 1), white, rgba(254, 254, 254, 255)},
		{rgba(255, 255, 255, 1), rgba(0, 0, 0, 1), rgba(128, 128, 128, 2)},
		{rgba(0, 0, 0, 1), rgba(255, 255, 255, 1), rgba(127, 127, 127, 2)},
		{rgba(0, 100, 200, 128), rgba(200, 100, 0, 128), rgba(66, 100, 134, 192)},
		{rgba(255, 0, 7, 254), rgba(0, 255, 7, 254), rgba(254, 1, 7, 255)},
	} {
		if got := Over(c.a, c.b); got != c.want {
			t.Errorf("Over(%v, %v) = %v, want %v", c.a, c.b, got, c.want)
		}
	}
}

// TestOverOfAllParts holds each part against the model: all pairs of parts, with the A at which something turns on both sides.
func TestOverOfAllParts(t *testing.T) {
	for _, aA := range alphas() {
		for _, bA := range alphas() {
			for x := range 256 {
				for y := range 256 {
					a := rgba(uint8(x), uint8(y), uint8(255-x), aA)
					b := rgba(uint8(y), uint8(255-x), uint8(x), bA)
					if got, want := Over(a, b), modelOver(t, a, b); got != want {
						t.Fatalf("Over(%v, %v) = %v, want %v", a, b, got, want)
					}
				}
			}
		}
	}
	// Of all pairs of A.
	for x := range 256 {
		for y := range 256 {
			a, b := rgba(250, 3, 77, uint8(x)), rgba(1, 254, 78, uint8(y))
			if got, want := Over(a, b), modelOver(t, a, b); got != want {
				t.Fatalf("Over(%v, %v) = %v, want %v", a, b, got, want)
			}
		}
	}
}

// overFollows holds what P4.7 says of Over.
func overFollows(t *testing.T, a, b api.Colour) {
	t.Helper()
	got := Over(a, b)
	if a.A == 255 && got != a {
		t.Errorf("Over(%v, %v) = %v, of an opaque colour", a, b, got)
	}
	if a.A == 0 && got != b {
		t.Errorf("Over(%v, %v) = %v, of nothing", a, b, got)
	}
	if b.A == 255 && got.A != 255 {
		t.Errorf("Over(%v, %v) = %v, not opaque", a, b, got)
	}
	if a.A == 0 || b.A == 0 {
		return
	}
	n, x, y := parts(got), parts(a), parts(b)
	for i := range 3 {
		if !between(n[i], x[i], y[i]) {
			t.Errorf("Over(%v, %v) = %v, not between", a, b, got)
		}
	}
}

func TestOverFollows(t *testing.T) {
	l := someColours(200)
	for _, a := range l {
		for _, b := range l {
			overFollows(t, a, b)
		}
	}
}

func TestMix(t *testing.T) {
	for _, c := range []struct {
		a, b api.Colour
		part uint8
		want api.Colour
	}{
		{black, white, 128, rgba(128, 128, 128, 255)},
		{black, white, 127, rgba(127, 127, 127, 255)},
		{rgba(10, 0, 0, 0), rgba(20, 0, 0, 0), 127, rgba(15, 0, 0, 0)},
		{rgba(10, 0, 0, 0), rgba(20, 0, 0, 0), 128, rgba(15, 0, 0, 0)},
		{rgba(1, 2, 3, 4), rgba(5, 6, 7, 8), 0, rgba(1, 2, 3, 4)},
		{rgba(1, 2, 3, 4), rgba(5, 6, 7, 8), 255, rgba(5, 6, 7, 8)},
		{rgba(255, 0, 9, 0), rgba(0, 255, 9, 255), 1, rgba(254, 1, 9, 1)},
		{rgba(255, 0, 9, 0), rgba(0, 255, 9, 255), 254, rgba(1, 254, 9, 254)},
		{rgba(0, 1, 0, 1), rgba(1, 0, 0, 2), 127, rgba(0, 1, 0, 1)},
		{rgba(0, 1, 0, 1), rgba(1, 0, 0, 2), 128, rgba(1, 0, 0, 2)},
	} {
		if got := Mix(c.a, c.b, c.part); got != c.want {
			t.Errorf("Mix(%v, %v, %d) = %v, want %v", c.a, c.b, c.part, got, c.want)
		}
	}
}

// TestMixOfAll holds all numbers, by all parts, against the model and what P4.7 says.
func TestMixOfAll(t *testing.T) {
	for x := range 256 {
		for y := range 64 { // the four parts take a quarter of the other numbers each
			a := rgba(uint8(x), uint8(255-x), uint8(x^0x55), uint8(x^0xaa))
			b := rgba(uint8(y), uint8(64+y), uint8(128+y), uint8(192+y))
			if Mix(a, b, 0) != a || Mix(a, b, 255) != b {
				t.Fatalf("Mix(%v, %v) by 0 and 255 = %v, %v", a, b, Mix(a, b, 0), Mix(a, b, 255))
			}
			for part := range 256 {
				mixFollows(t, a, b, uint8(part))
			}
		}
	}
}

func mixFollows(t *testing.T, a, b api.Colour, part uint8) {
	got := Mix(a, b, part)
	if want := modelMix(t, a, b, part); got != want {
		t.Fatalf("Mix(%v, %v, %d) = %v, want %v", a, b, part, got, want)
	}
	if back := Mix(b, a, 255-part); back != got {
		t.Fatalf("Mix(%v, %v, %d) = %v, and the other way round %v", a, b, part, got, back)
	}
	n, x, y := parts(got), parts(a), parts(b)
	for i := range 4 {
		if !between(n[i], x[i], y[i]) {
			t.Fatalf("Mix(%v, %v, %d) = %v, not between", a, b, part, got)
		}
	}
}

func TestLight(t *testing.T) {
	for _, c := range []struct {
		c    api.Colour
		want int
	}{
		{white, 1000000}, {black, 0}, {grey(128), 501960}, {grey(1), 3921}, {grey(254), 996078},
		{rgba(255, 0, 0, 255), 212600}, {rgba(0, 255, 0, 255), 715200}, {rgba(0, 0, 255, 255), 72200},
		{rgba(1, 0, 0, 255), 833}, {rgba(0, 1, 0, 255), 2804}, {rgba(0, 0, 1, 255), 283},
		// Not opaque: on black.
		{rgba(255, 255, 255, 0), 0}, {rgba(255, 255, 255, 1), 3921}, {rgba(255, 255, 255, 128), 501960},
		{rgba(255, 255, 255, 254), 996078}, {rgba(100, 100, 100, 128), 196078}, {rgba(0, 0, 0, 0), 0},
	} {
		if got := Light(c.c); got != c.want {
			t.Errorf("Light(%v) = %d, want %d", c.c, got, c.want)
		}
	}
	for _, c := range someColours(5000) {
		if got, want := Light(c), modelLight(t, c); got != want {
			t.Errorf("Light(%v) = %d, want %d", c, got, want)
		}
	}
}

// TestLightRises: it lies between those of black and white, and does not fall where a part rises.
func TestLightRises(t *testing.T) {
	for _, c := range someColours(300) {
		c.A = 255
		for i := range 3 {
			p := parts(c)
			last := 0
			for n := range 256 {
				p[i] = n
				light := Light(ofParts(t, p))
				if light < last || light > 1000000 {
					t.Fatalf("Light(%v) = %d, behind %d", p, light, last)
				}
				last = light
			}
		}
	}
}

func TestClear(t *testing.T) {
	for _, c := range []struct {
		a, b api.Colour
		want bool
	}{
		{white, black, true}, {grey(0x77), grey(0x80), false},
		{white, white, false}, {black, black, false},
		{grey(45), black, true}, {grey(44), black, false},
		// 10 times 175000 and 50000 is just 45 times 50000.
		{rgba(9, 47, 126, 255), black, true}, {rgba(10, 57, 24, 255), black, true},
		{rgba(5, 60, 9, 255), black, false}, {rgba(4, 50, 111, 255), black, false},
		// Not opaque: what is behind counts.
		{rgba(255, 255, 255, 20), black, false}, {rgba(255, 255, 255, 45), black, true}, {rgba(255, 255, 255, 44), black, false},
		{white, rgba(255, 255, 255, 0), true}, {white, rgba(255, 255, 255, 10), true}, {white, rgba(255, 255, 255, 254), false},
		{rgba(0, 0, 0, 0), white, false}, {rgba(255, 255, 255, 0), black, false},
		{rgba(0, 0, 0, 254), white, true}, {rgba(0, 0, 0, 128), white, false},
		{rgba(0, 0, 0, 0), rgba(255, 255, 255, 0), false},
	} {
		if got := Clear(c.a, c.b); got != c.want {
			t.Errorf("Clear(%v, %v) = %v, want %v", c.a, c.b, got, c.want)
		}
	}
}

// TestClearFollows holds pairs against the model, and opaque ones either way round.
func TestClearFollows(t *testing.T) {
	l := someColours(400)
	clear, pairs := 0, 0
	for n, a := range l {
		if o := rgba(a.R, a.G, a.B, 255); Clear(o, o) {
			t.Errorf("Clear of %v and itself", o)
		}
		for i := n % 5; i < len(l); i += 5 {
			b := l[i]
			got := Clear(a, b)
			pairs++
			if got != modelClear(t, a, b) {
				t.Errorf("Clear(%v, %v) = %v", a, b, got)
			}
			if got {
				clear++
			}
			oa, ob := rgba(a.R, a.G, a.B, 255), rgba(b.R, b.G, b.B, 255)
			if Clear(oa, ob) != Clear(ob, oa) {
				t.Errorf("Clear(%v, %v) is another one the other way round", oa, ob)
			}
		}
	}
	if clear == 0 || clear == pairs {
		t.Errorf("%d of %d pairs are clear: the pairs tell nothing", clear, pairs)
	}
}
