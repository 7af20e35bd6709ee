package colour

import (
	"fmt"
	"regexp"
	"strconv"
	"strings"
	"testing"

	"casement/api"
)

var (
	whole = regexp.MustCompile(`\A#([0-9a-fA-F]{3}|[0-9a-fA-F]{6}|[0-9a-fA-F]{8})\z`)
	begun = regexp.MustCompile(`\A(#[0-9a-fA-F]{0,8})?\z`)
)

// modelParse reads a text by what P4.1 says: whole texts by one pattern, beginnings by another one.
func modelParse(t *testing.T, s string) (api.Colour, int, api.Errno) {
	t.Helper()
	if whole.MatchString(s) {
		digits := s[1:]
		if len(digits) == 3 {
			digits = strings.Join([]string{digits[:1], digits[:1], digits[1:2], digits[1:2], digits[2:], digits[2:]}, "")
		}
		if len(digits) == 6 {
			digits += "ff"
		}
		n, err := strconv.ParseUint(digits, 16, 32)
		if err != nil {
			t.Fatal(err)
		}
		return rgba(uint8(n>>24), uint8(n>>16&255), uint8(n>>8&255), uint8(n&255)), 0, api.OK
	}
	at := 0
	for at < len(s) && begun.MatchString(s[:at+1]) {
		at++
	}
	return api.Colour{}, at, api.ErrColour
}

func holdParse(t *testing.T, s string) {
	t.Helper()
	c, at, e := Parse(s)
	if wc, wat, we := modelParse(t, s); c != wc || at != wat || e != we {
		t.Errorf("Parse(%q) = %v, %d, %d, want %v, %d, %d", s, c, at, e, wc, wat, we)
	}
}

func TestParse(t *testing.T) {
	for _, c := range []struct {
		s    string
		want api.Colour
		at   int
		e    api.Errno
	}{
		{"#1aF", rgba(17, 170, 255, 255), 0, api.OK},
		{"#0102fe", rgba(1, 2, 254, 255), 0, api.OK},
		{"#01020380", rgba(1, 2, 3, 128), 0, api.OK},
		{"#000", black, 0, api.OK},
		{"#fff", white, 0, api.OK},
		{"#FFFFFFFF", white, 0, api.OK},
		{"#00000000", rgba(0, 0, 0, 0), 0, api.OK},
		{"#ABCDEF01", rgba(171, 205, 239, 1), 0, api.OK},
		{"#abcdef0f", rgba(171, 205, 239, 15), 0, api.OK},
		{"#987", rgba(153, 136, 119, 255), 0, api.OK},
		{"", api.Colour{}, 0, api.ErrColour},
		{"#", api.Colour{}, 1, api.ErrColour},
		{"#1", api.Colour{}, 2, api.ErrColour},
		{"#12", api.Colour{}, 3, api.ErrColour},
		{"#1234", api.Colour{}, 5, api.ErrColour},
		{"#12345", api.Colour{}, 6, api.ErrColour},
		{"#1234567", api.Colour{}, 8, api.ErrColour},
		{"#123456789", api.Colour{}, 9, api.ErrColour},
		{"#12345678 ", api.Colour{}, 9, api.ErrColour},
		{"#12g", api.Colour{}, 3, api.ErrColour},
		{"#123g", api.Colour{}, 4, api.ErrColour},
		{"#fff ", api.Colour{}, 4, api.ErrColour},
		{" #fff", api.Colour{}, 0, api.ErrColour},
		{"##fff", api.Colour{}, 1, api.ErrColour},
		{"fff", api.Colour{}, 0, api.ErrColour},
		{"x", api.Colour{}, 0, api.ErrColour},
		{"#+12", api.Colour{}, 1, api.ErrColour},
		{"#1_2", api.Colour{}, 2, api.ErrColour},
		{"#12\xff", api.Colour{}, 3, api.ErrColour},
		{"#\u0661\u0662\u0663", api.Colour{}, 1, api.ErrColour},
		{"\xff", api.Colour{}, 0, api.ErrColour},
	} {
		if got, at, e := Parse(c.s); got != c.want || at != c.at || e != c.e {
			t.Errorf("Parse(%q) = %v, %d, %d, want %v, %d, %d", c.s, got, at, e, c.want, c.at, c.e)
		}
	}
}

// TestParsePlaces: of each number of sixteens, each byte at each place, and behind the last one.
func TestParsePlaces(t *testing.T) {
	for _, sixteens := range []string{"0123456789", "aBcDeF9870", "FFFFFFFFFF"} {
		for n := range len(sixteens) + 1 {
			s := "#" + sixteens[:n]
			holdParse(t, s)
			for at := range len(s) {
				for b := range 256 {
					holdParse(t, s[:at]+string([]byte{byte(b)})+s[at+1:])
				}
			}
			for b := range 256 {
				holdParse(t, s+string([]byte{byte(b)}))
			}
		}
	}
}

// TestParseLong: a text beyond every limit is no colour's text either, and is told as such.
func TestParseLong(t *testing.T) {
	for _, c := range []struct {
		s  string
		at int
	}{{"#" + strings.Repeat("a", api.MaxText), 9}, {strings.Repeat("#", api.MaxText+1), 1}, {strings.Repeat(" ", api.MaxText+1), 0}} {
		if got, at, e := Parse(c.s); got != (api.Colour{}) || at != c.at || e != api.ErrColour {
			t.Errorf("Parse of %d bytes = %v, %d, %d", len(c.s), got, at, e)
		}
	}
}

func TestText(t *testing.T) {
	for _, c := range []struct {
		c    api.Colour
		want string
	}{
		{rgba(17, 170, 255, 255), "#1af"}, {rgba(1, 2, 3, 255), "#010203"}, {rgba(255, 255, 255, 0), "#ffffff00"},
		{black, "#000"}, {white, "#fff"}, {rgba(0, 0, 0, 0), "#00000000"}, {rgba(0, 0, 0, 254), "#000000fe"},
		{rgba(17, 17, 18, 255), "#111112"}, {rgba(17, 18, 17, 255), "#111211"}, {rgba(18, 17, 17, 255), "#121111"},
		{rgba(16, 17, 17, 255), "#101111"}, {rgba(171, 205, 239, 255), "#abcdef"}, {rgba(171, 205, 239, 1), "#abcdef01"},
		{rgba(170, 187, 204, 255), "#abc"}, {rgba(170, 187, 204, 221), "#aabbccdd"},
	} {
		if got := Text(c.c); got != c.want {
			t.Errorf("Text(%v) = %q, want %q", c.c, got, c.want)
		}
	}
}

// modelText writes a colour by what P4.2 says.
func modelText(c api.Colour) string {
	all := fmt.Sprintf("%02x%02x%02x%02x", c.R, c.G, c.B, c.A)
	switch {
	case c.A == 255 && all[0] == all[1] && all[2] == all[3] && all[4] == all[5]:
		return "#" + all[:1] + all[2:3] + all[4:5]
	case c.A == 255:
		return "#" + all[:6]
	}
	return "#" + all
}

// forms are all texts that a colour has, in small and great letters.
func forms(c api.Colour) []string {
	all := fmt.Sprintf("%02x%02x%02x%02x", c.R, c.G, c.B, c.A)
	l := []string{all}
	if c.A == 255 {
		l = append(l, all[:6])
		if all[0] == all[1] && all[2] == all[3] && all[4] == all[5] {
			l = append(l, all[:1]+all[2:3]+all[4:5])
		}
	}
	for _, s := range l[:len(l):len(l)] {
		l = append(l, strings.ToUpper(s), strings.ToUpper(s[:1])+s[1:], s[:1]+strings.ToUpper(s[1:]))
	}
	return l
}

func textFollows(t *testing.T, c api.Colour) {
	t.Helper()
	text := Text(c)
	if want := modelText(c); text != want {
		t.Errorf("Text(%v) = %q, want %q", c, text, want)
	}
	if back, at, e := Parse(text); back != c || at != 0 || e != api.OK {
		t.Errorf("Parse(%q) = %v, %d, %d, want %v", text, back, at, e, c)
	}
	for _, s := range forms(c) {
		if back, at, e := Parse("#" + s); back != c || at != 0 || e != api.OK {
			t.Errorf("Parse(%q) = %v, %d, %d, want %v", "#"+s, back, at, e, c)
		}
	}
}

func TestTextFollows(t *testing.T) {
	for _, c := range someColours(5000) {
		textFollows(t, c)
		c.A = 255
		textFollows(t, c)
	}
	for n := range 256 {
		textFollows(t, rgba(uint8(n), 0, 0, 255))
		textFollows(t, rgba(0, uint8(n), 0, 255))
		textFollows(t, rgba(0, 0, uint8(n), 255))
		textFollows(t, rgba(0, 0, 0, uint8(n)))
	}
	for n := range 4096 { // all that three sixteens tell
		textFollows(t, rgba(uint8(n>>8)*17, uint8(n>>4&15)*17, uint8(n&15)*17, 255))
	}
}
