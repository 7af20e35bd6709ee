package vector

import (
	"strings"
	"testing"

	"casement/api"
)

// P16.4: texts, and what they are escaped.
func TestEscape(t *testing.T) {
	for _, x := range []struct{ plain, escaped string }{
		{"", ""},
		{"a<b", "a&3c;b"},
		{"\xff", "&ff;"},
		{"&<>\"", "&26;&3c;&3e;&22;"},
		{"a b", "a&20;b"},
		{"\n\r\t\x00", "&0a;&0d;&09;&00;"},
		{"\x1f !~\x7f\x80", "&1f;&20;!~&7f;&80;"},
		{"'#%/;=", "'#%/;="},
		{"&20;", "&26;20;"},
		{"\u4e00", "&e4;&b8;&80;"},
	} {
		if got := Escape(x.plain); got != x.escaped {
			t.Errorf("Escape(%q): %q, not %q", x.plain, got, x.escaped)
		}
		if got, at, e := Plain(x.escaped); got != x.plain || at != 0 || e != api.OK {
			t.Errorf("Plain(%q): %q, %d, %d", x.escaped, got, at, e)
		}
	}
}

// P16.4: each byte is escaped in one way, and no other one is read.
func TestEachByte(t *testing.T) {
	for n := range 256 {
		b := string([]byte{byte(n)})
		want := modelEscape(b)
		if got := Escape(b); got != want {
			t.Errorf("Escape(%q): %q", b, got)
		}
		if got, at, e := Plain(want); got != b || at != 0 || e != api.OK {
			t.Errorf("Plain(%q): %q, %d, %d", want, got, at, e)
		}
		other := b
		if want == b {
			other = "&" + string(sixteens[n/16]) + string(sixteens[n%16]) + ";"
		}
		if got, at, e := Plain("ab" + other); got != "" || at != 2 || e != api.ErrVector {
			t.Errorf("Plain(%q): %q, %d, %d", "ab"+other, got, at, e)
		}
	}
}

// P16.4: the place of the first byte that may not stand so, or of the first & that is wrong, whichever comes first.
func TestPlainPlaces(t *testing.T) {
	for _, x := range []struct {
		s  string
		at int
	}{
		{"&61;", 0}, {"a b", 1}, {"&2", 0}, {"&", 0}, {"&20", 0}, {"&;", 0}, {"&&20;", 0},
		{"ab&2C;", 2}, {"ab&C2;", 2}, {"&2C;", 0}, {"&20;&", 4}, {"&2g;", 0}, {"&g2;", 0}, {"&200;", 0}, {"& 20;", 0}, {"&-1;", 0}, {"&+1;", 0},
		{"&20:", 0}, {"&20 ;", 0}, {"x\xff", 1}, {"x\x00", 1}, {"x\x7f", 1}, {"x\n", 1}, {"x\"", 1}, {"x>", 1}, {"x<", 1},
		{"&21;", 0}, {"&7e;", 0}, {"&20;&41;", 4},
		{"a&zz; ", 1}, {"a &zz;", 1}, {"&20;&20; &2", 8}, {"&20;&20;&2 ", 8},
		{"&lt;", 0}, {"&amp;", 0}, {"&\xff\xff;", 0}, {"&0x;", 0},
	} {
		if got, at, e := Plain(x.s); got != "" || at != x.at || e != api.ErrVector {
			t.Errorf("Plain(%q): %q, %d, %d; %d", x.s, got, at, e, x.at)
		}
	}
}

// P16.4: all short texts of some bytes that have a meaning.
func TestPlainOfAllShortTexts(t *testing.T) {
	bytes := "&02a;F <!"
	var try func(s string, more int)
	right := 0
	try = func(s string, more int) {
		got, at, e := Plain(s)
		want, place, ok := modelPlain(s)
		if got != want || at != place || ok != (e == api.OK) || !ok && e != api.ErrVector {
			t.Fatalf("Plain(%q): %q, %d, %d; %q, %d", s, got, at, e, want, place)
		}
		if ok {
			right++
			if Escape(got) != s {
				t.Fatalf("Escape(%q): %q, not %q", got, Escape(got), s)
			}
		}
		for i := range bytes {
			if more > 0 {
				try(s+bytes[i:i+1], more-1)
			}
		}
	}
	try("", 6)
	if right < 1000 {
		t.Errorf("%d right", right)
	}
}

// P16.4, P16.6: there is no bound to either call.
func TestLongTexts(t *testing.T) {
	for _, x := range []string{strings.Repeat("x", api.MaxText+1), strings.Repeat("\xff", api.MaxText+1), strings.Repeat("a b", api.MaxAnswer)} {
		escaped := Escape(x)
		if escaped != modelEscape(x) {
			t.Errorf("Escape of %d bytes", len(x))
		}
		if got, at, e := Plain(escaped); got != x || at != 0 || e != api.OK {
			t.Errorf("Plain of %d bytes: %d, %d, %d", len(escaped), len(got), at, e)
		}
		if got, at, e := Plain(escaped + "<"); got != "" || at != len(escaped) || e != api.ErrVector {
			t.Errorf("Plain of %d bytes and <: %d, %d, %d", len(escaped), len(got), at, e)
		}
	}
}
