package event

import (
	"fmt"
	"strings"
	"testing"

	"casement/api"
)

// wrong asks for the place of a text's first wrong piece.
func wrong(t *testing.T, s string, want int) {
	t.Helper()
	if e, at, err := Parse(s); e != (api.Event{}) || at != want || err != api.ErrEvent {
		t.Errorf("Parse(%q): %+v, %d, %d; at %d", s, e, at, err, want)
	}
	parseAgrees(t, s)
}

// P19.4: the chapter's examples.
func TestExamplesOfParse(t *testing.T) {
	wrong(t, "move 1", 6)
	wrong(t, "move 1 02", 7)
	wrong(t, "jump", 0)
	wrong(t, "text a%61", 6)
	wrong(t, "tick 0", 0)
}

// P19.4: the word: none, another one, one that is longer or shorter, great letters.
func TestWords(t *testing.T) {
	for _, s := range []string{"", " ", " move 1 2", "Move 1 2", "MOVE 1 2", "moved 1 2", "mov 1 2", "movee", "key", "x", "1", "-", "%", "move1 2 3", "\x00", "\xff", "tickx 1", "keys 1 a", "texttext a", "\nmove 1 2", "\tmove 1 2"} {
		at := 0
		if s == "key" || s == "move1 2 3" { // the word is right, and the blank lacks
			at = len(strings.TrimRight(s, "1 23"))
		}
		wrong(t, s, at)
	}
	for _, word := range wordsOf()[1:] {
		wrong(t, word, len(word))
		wrong(t, word+" ", len(word)+1)
		wrong(t, word[:len(word)-1], 0)
		wrong(t, word+"a 1 1 1", 0)
		wrong(t, strings.ToUpper(word[:1])+word[1:], 0)
		wrong(t, word[:1]+strings.ToUpper(word[1:]), 0)
		wrong(t, word+"\t1 1 1", len(word))
		for _, more := range []string{"A", "Z", "_", "`", "{", "|", "0", "9"} { // what is no small letter ends the word
			wrong(t, word+more+" 1 1", len(word))
			wrong(t, more+word+" 1 1", 0)
		}
		wrong(t, word+"\n1 1 1", len(word))
		wrong(t, word+"-1 1 1", len(word))
		wrong(t, word+"%20", len(word))
		wrong(t, word+"\x00", len(word))
		wrong(t, word+"\u00a0a", len(word))
	}
}

// piecesOf are a right text's pieces, cut at its blanks, and the places at which they begin.
func piecesOf(s string) ([]string, []int) {
	l := strings.Split(s, " ")
	var at []int
	n := 0
	for _, piece := range l {
		at = append(at, n)
		n += len(piece) + 1
	}
	return l, at
}

// P19.4: each text with one piece that is left out, cut off, another byte than the blank ahead of it, or two blanks, or one behind all.
func TestBlanks(t *testing.T) {
	for _, e := range samples() {
		s, _ := Text(e)
		l, at := piecesOf(s)
		for i := range l[1:] {
			next := at[i+1]
			wrong(t, s[:next-1], next-1) // what lacks is the blank
			wrong(t, s[:next], next)     // or the piece behind it
			wrong(t, s[:next]+" "+s[next:], next)
			wrong(t, s[:next]+"  "+s[next:], next)
			for _, b := range []string{"\t", "\n", "\x00", "%20"} {
				wrong(t, s[:next-1]+b+s[next:], next-1)
			}
		}
		wrong(t, s+" ", len(s))
		wrong(t, s+"  ", len(s))
		wrong(t, s+" 1", len(s))
		wrong(t, s+" a", len(s))
		last := l[len(l)-1]
		if isNumber := last[0] == '-' || last[0] <= '9'; isNumber {
			for _, more := range []string{"a", "-", "-1", ".5", "\n", "\x00", "%20", "e3", "\xff"} {
				wrong(t, s+more, len(s))
			}
		} else {
			for _, more := range []string{"\n", "\x00", "\xff", "%", "%2", "%2g"} {
				wrong(t, s+more, len(s))
			}
			wrong(t, s+" \n", len(s))
		}
	}
}

// P19.4: each number, written wrong in each way; where it is right, the event may be or not.
func TestWrongNumbers(t *testing.T) {
	for _, e := range samples() {
		s, _ := Text(e)
		l, at := piecesOf(s)
		for i, piece := range l {
			if i == 0 || piece[0] != '-' && (piece[0] < '0' || piece[0] > '9') {
				continue
			}
			with := func(number string) string {
				return strings.Join(append(append(append([]string{}, l[:i]...), number), l[i+1:]...), " ")
			}
			for _, number := range []string{"", "-", "-0", "00", "01", "-01", "0001", "007", "+1", "--1", "1000000000", "-1000000000", "9999999999", "18446744073709551617", strings.Repeat("9", 60), "x", "a1", "%31", "\x00", "\xff", "٣", ".5", "_1"} {
				wrong(t, with(number), at[i])
			}
			for _, number := range []string{"1-", "1-1", "1a", "1.5", "1_0", "1%20", "0x1", "0-", "12345678-9", "1\n", "1\x001"} { // the run is right, and something else than a blank stands behind it
				run := strings.IndexFunc(number[1:], func(r rune) bool { return r < '0' || r > '9' }) + 1
				wrong(t, with(number), at[i]+run)
			}
			for _, number := range []string{"999999999", "-999999999", "123456789", "100000000"} {
				wrong(t, with(number), 0) // they are read, but no event may have them
				if i+1 < len(l) {
					wrong(t, with(number)+" ", len(with(number))) // a piece that is wrong is told ahead of that
				}
			}
		}
	}
}

// P19.4: Mods beyond a byte are not cut.
func TestMods(t *testing.T) {
	for _, mods := range []int{8, 255, 256, 257, 258, 263, 512, 65536, 65537, 999999999, -1, -255, -256, -254, -999999999} {
		wrong(t, fmt.Sprintf("key %d x", mods), 0)
		wrong(t, fmt.Sprintf("key %d x ", mods), len(fmt.Sprintf("key %d x", mods)))
	}
}

// P19.4: escaped texts: each byte as it stands, each one behind the mark, in small and great sixteens, cut off.
func TestWrongEscaped(t *testing.T) {
	for _, head := range []string{"text ", "drag 0 0 ", "drop -1 5 ", "key 7 "} {
		at := len(head)
		wrong(t, head, at)
		wrong(t, head+" a", at)
		for b := range 256 {
			one := string([]byte{byte(b)})
			stands := b > 32 && b < 127 && b != '%'
			if !stands && b != ' ' {
				wrong(t, head+one, at)
				wrong(t, head+"ab"+one, at+2)
				wrong(t, head+"%20"+one+"%zz", at+3)
			}
			marked := fmt.Sprintf("%%%02x", b)
			if stands {
				wrong(t, head+marked, at)
				wrong(t, head+"a"+marked+"\x00", at+1)
			}
			if great := strings.ToUpper(marked); great != marked {
				wrong(t, head+great, at)
				wrong(t, head+"%25a"+great, at+4)
			}
		}
		for _, cut := range []string{"%", "%2", "%g0", "%0g", "% 0", "%%20", "%-1", "%+1", "%0", "%0x", "%2 0", "%\xff0", "%/0", "%:0", "%`0", "%0`", "%0/", "%0:", "%0G", "%a ", "%2\x00"} {
			wrong(t, head+cut, at)
			wrong(t, head+"a%20b"+cut, at+5)
		}
		wrong(t, head+"%200%", at+4)
		wrong(t, head+"a b", at+1)
		wrong(t, head+"a b%", at+1)
		wrong(t, head+"a%20 ", at+4)
	}
}

// P19.4: texts that are read right, and tell an event that may not be.
func TestEventsThatMayNotBe(t *testing.T) {
	for _, s := range []string{
		"key 8 a", "key 0 %ff", "key 0 %c3", "key 1 a%80b", "key 0 " + strings.Repeat("a", 65), "key 0 " + strings.Repeat("%20", 65),
		"down 0 0 0", "down 0 0 4", "up 0 0 -1", "down 16385 0 1", "up 0 -16385 1",
		"move 16385 0", "move 0 16385", "move -16385 0", "move 0 -16385",
		"wheel 0 0 0", "wheel 0 0 16385", "wheel 0 0 -16385", "wheel 16385 0 1",
		"tick 0", "tick -1", "tick 1048577", "resize -1 0", "resize 0 -1", "resize 32769 0", "resize 0 32769",
		"drag 16385 0 a", "drag 0 0 " + strings.Repeat("a", 65), "drop 0 -16385 a", "drop 0 0 " + strings.Repeat("%ff", 65),
	} {
		wrong(t, s, 0)
		wrong(t, s+" ", len(s))
	}
}

// P19.4: texts of MaxText bytes are read, whatever they are; longer ones are not looked at.
func TestLongest(t *testing.T) {
	for _, s := range []string{"text ", "key 0 ", "move 1 ", "move 1 2", "tick ", "", "drag 0 0 ", "tick 1 "} {
		for _, fill := range []string{"a", "1", "0", "-", " ", "%", "%20", "\x00", "\xff"} {
			long := s + strings.Repeat(fill, api.MaxText+1)
			parseAgrees(t, long[:api.MaxText])
			parseAgrees(t, long[:api.MaxText-1])
			for _, more := range []string{long[:api.MaxText+1], long} {
				if e, at, err := Parse(more); e != (api.Event{}) || at != 0 || err != api.ErrText {
					t.Errorf("Parse of %d bytes: %+v, %d, %d", len(more), brief(e), at, err)
				}
			}
		}
	}
	if e, at, err := Parse("text " + strings.Repeat("a", api.MaxText-5)); len(e.Text) != api.MaxText-5 || at != 0 || err != api.OK {
		t.Errorf("the longest text: %d bytes, %d, %d", len(e.Text), at, err)
	}
	wrong(t, "text "+strings.Repeat("a", api.MaxText-6)+"%", api.MaxText-1)
	wrong(t, "text "+strings.Repeat("a", api.MaxText-6)+" ", api.MaxText-1)
	wrong(t, "drop 0 0 "+strings.Repeat("a", api.MaxText-9), 0)
}
