package cells

import (
	"fmt"
	"strings"
	"testing"

	"casement/api"
)

// reads holds what Read makes of dots, 4 by 2, against the screen of these rows.
func reads(t *testing.T, text string, want api.Screen) {
	t.Helper()
	got, at, e := Read(of("....", "...."), text)
	if !alike(got, want) || at != 0 || e != api.OK || Check(got) != api.OK {
		t.Errorf("Read(%q): %v, %d, %d; %v", text, got, at, e, want)
	}
}

// refuses holds the number of the byte that Read tells, of a screen of 4 by 2, against another one.
func refuses(t *testing.T, text string, want int) {
	t.Helper()
	got, at, e := Read(of("....", "...."), text)
	if !isZero(got) || at != want || e != api.ErrCell {
		t.Errorf("Read(%q): %v, %d, %d; at %d", text, got, at, e, want)
	}
}

// with is the dots with other cells from a place on.
func with(x, y int, l ...api.Cell) api.Screen {
	s := of("....", "....")
	copy(s.Cells[4*y+x:], l)
	return s
}

// P15.6: runes are put from the first place on, and from where the text goes.
func TestRead(t *testing.T) {
	reads(t, "", of("....", "...."))
	reads(t, "a", with(0, 0, plain('a')))
	reads(t, "abcd", of("abcd", "...."))
	reads(t, "\x1b[2;1Habcd", of("....", "abcd"))
	reads(t, "\x1b[2;4Ha", of("....", "...a"))
	reads(t, "\x1b[1;1Ha\x1b[1;1Hb", of("b...", "...."))
	reads(t, "ab\x1b[2;3Hcd\x1b[1;2Hx", of("ax..", "..cd"))
	reads(t, "a\x1b[2;2H", of("a...", "...."))
	reads(t, "\xef\xbf\xbd", with(0, 0, plain(0xfffd)))
	reads(t, "\u00e9\u20ac\U00010400\U0010ffff", with(0, 0, plain(0xe9), plain(0x20ac), plain(0x10400), plain(0x10ffff)))
}

// P15.6: runes of two cells, and halves of them.
func TestReadHalves(t *testing.T) {
	l, r := left(0x4e00, none, none), right(0x4e00, none, none)
	reads(t, "\u4e00", with(0, 0, l, r))
	reads(t, "\u4e00\u4e00", with(0, 0, l, r, l, r))
	reads(t, "a\u4e00b", with(0, 0, plain('a'), l, r, plain('b')))
	reads(t, "\x0e\u4e00", with(0, 0, l))
	reads(t, "\x0f\u4e00", with(0, 0, r))
	reads(t, "\x0f\u4e00\x0e\u4e00ab", with(0, 0, r, l, plain('a'), plain('b')))
	reads(t, "\x0e\u4e00\x0f\u4e00ab", with(0, 0, l, r, plain('a'), plain('b')))
	reads(t, "\x1b[2;4H\x0e\u4e00", with(3, 1, l))
	reads(t, "\x1b[2;4H\x0f\U0001f300", with(3, 1, right(0x1f300, none, none)))
}

// P15.6: runes have the colour and the back told last, zero at first.
func TestReadColours(t *testing.T) {
	c := api.Colour{R: 1, G: 20, B: 255}
	reads(t, "\x1b[38;2;1;20;255;0ma", with(0, 0, cell('a', c, none)))
	reads(t, "\x1b[48;2;1;20;255;0ma", with(0, 0, cell('a', none, c)))
	reads(t, "a\x1b[38;2;255;0;0;255mb\x1b[48;2;255;0;0;255mc\x1b[38;2;0;0;0;0md", with(0, 0, plain('a'), cell('b', red, none), cell('c', red, red), cell('d', none, red)))
	reads(t, "\x1b[38;2;255;0;0;255m\x1b[38;2;0;0;255;255ma", with(0, 0, cell('a', blue, none)))
	reads(t, "\x1b[38;2;255;0;0;255m\x1b[2;1H\u4e00", with(0, 1, left(0x4e00, red, none), right(0x4e00, red, none)))
	reads(t, "\x1b[48;2;255;0;0;255m\x1b[2;1H\x0f\u4e00", with(0, 1, right(0x4e00, none, red)))
	reads(t, "\x1b[38;2;255;0;0;255m\x1b[48;2;0;0;0;1m", of("....", "...."))
}

// P15.6: a rune that would be put beyond the row's end, or in no place; a go there without one is nothing wrong.
func TestReadBeyond(t *testing.T) {
	reads(t, "\x1b[16384;16384H", of("....", "...."))
	reads(t, "\x1b[16384;16384H\x1b[38;2;255;0;0;255m\x1b[1;2Ha", with(1, 0, cell('a', red, none)))
	reads(t, "\x1b[3;1H\x1b[1;5H\x1b[2;2Ha", with(1, 1, plain('a')))
	refuses(t, "\x1b[1;4Hab", 7)
	refuses(t, "\x1b[3;1Hx", 6)
	refuses(t, "\x1b[1;5Hx", 6)
	refuses(t, "\x1b[16384;1Hx", 10)
	refuses(t, "\x1b[1;16384Hx", 10)
	refuses(t, "abcde", 4)
	refuses(t, "abc\u4e00", 3)
	refuses(t, "abcd\u4e00", 4)
	refuses(t, "abcd\x0e\u4e00", 4)
	refuses(t, "abcd\x0f\u4e00", 4)
	refuses(t, "\x1b[2;1H\u4e00\u4e00x", 12)
	refuses(t, "abcd\x1b[38;2;1;2;3;4mx", 19)
	for _, s := range []api.Screen{screen(0, 0), screen(0, 2), screen(2, 0)} {
		for text, want := range map[string]int{"a": 0, "\x1b[1;1Ha": 6, "\u4e00": 0, "\x0e\u4e00": 0} {
			if _, at, e := Read(s, text); at != want || e != api.ErrCell {
				t.Errorf("Read of %q into no cells: %d, %d", text, at, e)
			}
		}
		if got, at, e := Read(s, "\x1b[1;1H\x1b[48;2;0;0;0;1m"); !alike(got, s) || at != 0 || e != api.OK {
			t.Errorf("Read of a go into no cells: %v, %d, %d", got, at, e)
		}
	}
	one := screen(1, 1, plain('.'))
	if got, _, e := Read(one, "x"); !alike(got, screen(1, 1, plain('x'))) || e != api.OK {
		t.Errorf("Read into one cell: %v, %d", got, e)
	}
	if _, at, e := Read(one, "\u4e00"); at != 0 || e != api.ErrCell {
		t.Errorf("Read of a wide rune into one cell: %d, %d", at, e)
	}
}

// P15.6: numbers in their one form, and as great as they may be.
func TestReadNumbers(t *testing.T) {
	oks := []string{"1;1H", "2;4H", "9;10H", "16384;16384H", "38;2;0;0;0;0m", "48;2;0;0;0;0m", "38;2;255;255;255;255m", "48;2;1;20;199;200m", "10000;9999H"}
	for _, x := range oks {
		reads(t, "\x1b["+x, of("....", "...."))
	}
	wrong := []string{
		"0;1H", "1;0H", "0;0H", "01;1H", "1;01H", "00;1H", "16385;1H", "1;16385H", "20000;1H", "99999999999999999999;1H", "1;18446744073709551617H", "4294967297;1H",
		"-1;1H", "1;-1H", "+1;1H", " 1;1H", "1; 1H", "1;1 H", ";1H", "1;H", ";H", "H", "1H", "1;1;1H", "1;1h", "1;1", "1;1m", "1;1f", "1:1H", "1,1H", "1;;1H",
		"38;2;1;2;3;256m", "38;2;256;2;3;4m", "38;2;1;256;3;4m", "38;2;1;2;256;4m", "48;2;1;2;3;256m", "38;2;1;2;3;300m", "38;2;1;2;3;16385m",
		"38;2;01;2;3;4m", "38;2;1;02;3;4m", "38;2;1;2;00;4m", "48;2;1;2;3;04m", "038;2;1;2;3;4m", "38;02;1;2;3;4m",
		"38;3;1;2;3;4m", "38;0;1;2;3;4m", "38;1;1;2;3;4m", "38;5;1m", "39;2;1;2;3;4m", "37;2;1;2;3;4m", "47;2;1;2;3;4m", "49;2;1;2;3;4m", "0;2;1;2;3;4m",
		"38;2;1;2;3m", "38;2;1;2;3;m", "38;2;1;2;3;4", "38;2;1;2;3;4;5m", "38;2;1;2;3;4;m", "38;2;1;2;3;4M", "38;2;1;2;3;4H", "38;2;;2;3;4m", "38;2;-1;2;3;4m", "m", "0m", "38m", "38;2m",
		"2J", "A", "?25l", "", "[1;1H", "\x1b[1;1H", "1\x1b;1H", "\u0661;1H", strings.Repeat("0", 100) + "1;1H", strings.Repeat("1;", 1000) + "1H",
	}
	for _, x := range wrong {
		refuses(t, "\x1b["+x, 0)
		refuses(t, "ab\x1b[2;1H\x1b["+x, 8)
		refuses(t, "ab\x1b["+x+"x", 2)
	}
	for _, x := range []string{"\x1b", "\x1b]1;1H", "\x1b1;1H", "\x1b\x1b[1;1H", "\x1ba", "\x1bO", "\x9b1;1H", "\u009b1;1H"} {
		refuses(t, x, 0)
		refuses(t, "a"+x, 1)
	}
}

// P15.6: an escape that is cut is none, wherever it is cut.
func TestReadCut(t *testing.T) {
	for _, x := range []string{"\x1b[12;345H", "\x1b[38;2;10;20;30;40m", "\x1b[48;2;10;20;30;40m"} {
		reads(t, x, of("....", "...."))
		for n := 1; n < len(x); n++ {
			refuses(t, x[:n], 0)
			refuses(t, "a"+x[:n], 1)
			refuses(t, x+x[:n], len(x))
		}
	}
}

// P15.6: what is no cell's rune, with and without a byte 14 or 15 ahead, which is where the thing begins.
func TestReadNoRunes(t *testing.T) {
	broken := []string{"\xff", "\x80", "\xc3", "\xe4\xb8", "\xed\xa0\x80", "\xed\xbf\xbf", "\xf4\x90\x80\x80", "\xc0\xaf", "\xf8\x88\x80\x80\x80", "\xf0\x9f\x8c"}
	controls := []string{"\n", "\t", "\r", "\x00", "\x01", "\x0d", "\x10", "\x1a", "\x1c", "\x7f", "\u0080", "\u009f", "\u0301", "\u200b", "\ufe0f", "\U000e0100"}
	for _, x := range append(broken, controls...) {
		for _, ahead := range []string{"", "\x0e", "\x0f"} {
			refuses(t, ahead+x, 0)
			refuses(t, ahead+x+"a", 0)
			refuses(t, "ab"+ahead+x, 2)
			refuses(t, "\x1b[1;1H"+ahead+x, 6)
		}
	}
	for _, ahead := range []string{"\x0e", "\x0f"} {
		for _, x := range []string{"", "a", " ", "\ufffd", "\u2500", "\x0e", "\x0f", "\x0e\u4e00", "\x0f\u4e00", "\x1b[1;1H", "\x1b[1;1H\u4e00", "\x1b[38;2;1;2;3;4m\u4e00", "\x1b"} {
			refuses(t, ahead+x, 0)
			refuses(t, "\u4e00"+ahead+x, 3)
			refuses(t, "\x1b[2;1Hxy"+ahead+x, 8)
		}
	}
}

// P15.6: what is wrong first is told, be it that more is wrong behind it.
func TestReadTheFirst(t *testing.T) {
	refuses(t, "abcde\xff", 4)
	refuses(t, "abc\xffde", 3)
	refuses(t, "\x1b[0;1H\xff", 0)
	refuses(t, "\x1b[9;9Hx\x1b[", 6)
	refuses(t, "\x1b[1;4H\u4e00\x1b[", 6)
}

// P15.6: each number of a go, and each of a colour.
func TestReadEachNumber(t *testing.T) {
	for n := 1; n <= side; n += 1 + n/50 {
		tall, e := Blank(size(1, side), none)
		got, at, e2 := Read(tall, fmt.Sprintf("\x1b[%d;1Hx", n))
		if e != api.OK || e2 != api.OK || at != 0 || got.Cells[n-1] != plain('x') {
			t.Fatalf("a go to the row %d: %d, %d, %d", n, at, e, e2)
		}
		long, e := Blank(size(side, 1), none)
		got, at, e2 = Read(long, fmt.Sprintf("\x1b[1;%dHx", n))
		if e != api.OK || e2 != api.OK || at != 0 || got.Cells[n-1] != plain('x') {
			t.Fatalf("a go to the column %d: %d, %d, %d", n, at, e, e2)
		}
	}
	for n := range 300 {
		for part := range 4 {
			parts := []any{38, 1, 2, 3, 4}
			parts[part+1] = n
			text := fmt.Sprintf("\x1b[%d;2;%d;%d;%d;%dm", parts...)
			if n > 255 {
				refuses(t, text, 0)
				continue
			}
			c := []uint8{1, 2, 3, 4}
			c[part] = uint8(n)
			reads(t, text+"x", with(0, 0, cell('x', api.Colour{R: c[0], G: c[1], B: c[2], A: c[3]}, none)))
		}
	}
}
