package event

import (
	"math"
	"strconv"
	"strings"

	"casement/api"
)

const (
	mostDigits = 9
	markedSize = 3 // bytes of one that does not stand as it is: the mark, two sixteens
)

// reader goes through an event's text, piece by piece. Once one is wrong, at stays its place, and nothing more is read.
type reader struct {
	text  string
	at    int
	wrong bool
}

// event reads the whole text; what it tells may still be an event that may not be.
func (r *reader) event() api.Event {
	e := api.Event{Kind: r.kind()}
	has := fieldsOf(e.Kind)
	if has&key != 0 {
		e.Key = api.Key{Mods: modsOf(r.number()), Name: r.escaped()}
	}
	if has&place != 0 {
		e.At = api.Point{X: r.number(), Y: r.number()}
	}
	if has&number != 0 {
		e.N = r.number()
	}
	if has&words != 0 {
		e.Text = r.escaped()
	}
	if has&size != 0 {
		e.Size = api.Size{W: r.number(), H: r.number()}
	}
	r.end()
	return e
}

// rest is what was not read yet; nothing, if something was wrong.
func (r *reader) rest() string {
	if r.wrong {
		return ""
	}
	return r.text[r.at:]
}

// fail tells that what begins so many bytes on is wrong. Behind what is wrong there is no rest, of which a piece could begin further on.
func (r *reader) fail(on int) {
	r.wrong = true
	r.at += on
}

// kind reads a word.
func (r *reader) kind() uint8 {
	word := r.text[:run(r.text, 0, 'a', 'z')]
	for kind := uint8(1); isKind(kind); kind++ {
		if wordOf(kind) == word {
			r.at += len(word)
			return kind
		}
	}
	r.fail(0)
	return 0
}

// run is where the bytes of a text that lie between two ones end, from one place on.
func run(s string, from int, least, most byte) int {
	for from < len(s) && s[from] >= least && s[from] <= most {
		from++
	}
	return from
}

// blank reads a blank, which stands ahead of each piece but the first one.
func (r *reader) blank() {
	if !strings.HasPrefix(r.rest(), string(blank)) {
		r.fail(0)
		return
	}
	r.at++
}

// number reads a number and the blank ahead of it.
func (r *reader) number() int {
	r.blank()
	rest := r.rest()
	digits := 0
	if strings.HasPrefix(rest, "-") {
		digits = 1
	}
	end := run(rest, digits, '0', '9')
	n, e := strconv.Atoi(rest[:end])
	if e != nil || end-digits > mostDigits || strconv.Itoa(n) != rest[:end] {
		r.fail(0)
		return 0
	}
	r.at += end
	return n
}

// escaped reads an escaped text and the blank ahead of it.
func (r *reader) escaped() string {
	r.blank()
	piece, _, _ := strings.Cut(r.rest(), string(blank))
	if piece == "" {
		r.fail(0)
		return ""
	}
	var plain []byte
	for i := 0; i < len(piece); {
		b, n := firstByte(piece[i:])
		if n == 0 {
			r.fail(i)
			return ""
		}
		plain = append(plain, b)
		i += n
	}
	r.at += len(piece)
	return string(plain)
}

// end reads the text's end.
func (r *reader) end() {
	if r.rest() != "" {
		r.fail(0)
	}
}

// firstByte is the first byte of what was escaped, and how many bytes of the escaped text, which is not empty, tell it: 0, if they are wrong.
func firstByte(s string) (byte, int) {
	if stands(s[0]) {
		return s[0], 1
	}
	if len(s) < markedSize || s[0] != mark {
		return 0, 0
	}
	high, low := strings.IndexByte(sixteens, s[1]), strings.IndexByte(sixteens, s[2])
	if high < 0 || low < 0 {
		return 0, 0
	}
	b := byte(high<<4 | low)
	// Each byte is escaped in one way alone, so that a text that is read is just what is written of it.
	if stands(b) {
		return 0, 0
	}
	return b, markedSize
}

// modsOf is a key's Mods as they were read; those beyond a byte become ones that may not be either.
func modsOf(n int) uint8 {
	if !within(n, 0, math.MaxUint8) {
		return math.MaxUint8
	}
	return uint8(n)
}
