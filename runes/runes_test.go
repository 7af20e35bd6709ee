package runes

import (
	"math"
	"math/rand"
	"slices"
	"strings"
	"testing"
	"unicode"
	"unicode/utf8"
)

const (
	acute = "\u0301"
	grave = "\u0300"
	wide  = "\u4e00"
	shown = "\ufffd"
)

// The model: the document's words, step by step, with no thought of speed.

// modelRune is a rune of a text with its bytes.
type modelRune struct {
	r      rune
	bytes  string
	broken bool
}

// modelPiece is a piece of a text.
type modelPiece struct {
	at    int
	text  string
	first rune
	cells int
}

func modelRunes(s string) []modelRune {
	var l []modelRune
	for len(s) > 0 {
		n := 1
		for n < min(4, len(s)) && !wellFormed(s[:n]) {
			n++
		}
		if wellFormed(s[:n]) {
			l = append(l, modelRune{r: valueOf(s[:n]), bytes: s[:n]})
		} else {
			n = 1
			l = append(l, modelRune{r: 0xfffd, bytes: s[:1], broken: true})
		}
		s = s[n:]
	}
	return l
}

// wellFormed tells by Unicode's table of well-formed bytes whether a text is just one rune.
func wellFormed(s string) bool {
	in := func(i int, low, high byte) bool { return low <= s[i] && s[i] <= high }
	switch len(s) {
	case 1:
		return in(0, 0, 0x7f)
	case 2:
		return in(0, 0xc2, 0xdf) && in(1, 0x80, 0xbf)
	case 3:
		second := in(0, 0xe0, 0xe0) && in(1, 0xa0, 0xbf) || in(0, 0xe1, 0xec) && in(1, 0x80, 0xbf) || in(0, 0xed, 0xed) && in(1, 0x80, 0x9f) || in(0, 0xee, 0xef) && in(1, 0x80, 0xbf)
		return second && in(2, 0x80, 0xbf)
	case 4:
		second := in(0, 0xf0, 0xf0) && in(1, 0x90, 0xbf) || in(0, 0xf1, 0xf3) && in(1, 0x80, 0xbf) || in(0, 0xf4, 0xf4) && in(1, 0x80, 0x8f)
		return second && in(2, 0x80, 0xbf) && in(3, 0x80, 0xbf)
	}
	return false
}

// valueOf is the number that the bytes of a well-formed rune have together.
func valueOf(s string) rune {
	if len(s) == 1 {
		return rune(s[0])
	}
	r := rune(s[0]) & (0x7f >> len(s))
	for i := 1; i < len(s); i++ {
		r = r<<6 | rune(s[i])&0x3f
	}
	return r
}

func modelControl(r rune) bool { return r >= 0 && r <= 0x1f || r >= 0x7f && r <= 0x9f }

// modelMarks and modelWides are the ranges of the document: first, last, first, last ..
func modelMarks() []rune {
	return []rune{0x300, 0x36f, 0x483, 0x489, 0x591, 0x5bd, 0x610, 0x61a, 0x64b, 0x65f, 0x200b, 0x200f, 0x202a, 0x202e, 0x2060, 0x2064, 0x20d0, 0x20ff, 0xfe00, 0xfe0f, 0xfe20, 0xfe2f, 0xe0100, 0xe01ef}
}

func modelWides() []rune {
	return []rune{0x1100, 0x115f, 0x2e80, 0x303e, 0x3041, 0x33ff, 0x3400, 0x4dbf, 0x4e00, 0x9fff, 0xa000, 0xa4cf, 0xac00, 0xd7a3, 0xf900, 0xfaff, 0xfe30, 0xfe6f, 0xff00, 0xff60, 0xffe0, 0xffe6, 0x1f300, 0x1f64f, 0x1f900, 0x1f9ff, 0x20000, 0x3fffd}
}

func inRanges(r rune, ends []rune) bool {
	for i := 0; i < len(ends); i += 2 {
		if r >= ends[i] && r <= ends[i+1] {
			return true
		}
	}
	return false
}

func modelWidth(r rune) int {
	switch {
	case r < 0 || r > 0x10ffff || r >= 0xd800 && r <= 0xdfff:
		return 1
	case modelControl(r) || inRanges(r, modelMarks()):
		return 0
	case inRanges(r, modelWides()):
		return 2
	}
	return 1
}

func modelPieces(s string) []modelPiece {
	var l []modelPiece
	at := 0
	for _, m := range modelRunes(s) {
		last := len(l) - 1
		if inRanges(m.r, modelMarks()) && last >= 0 && !modelControl(l[last].first) {
			l[last].text += m.bytes
		} else {
			l = append(l, modelPiece{at, m.bytes, m.r, modelWidth(m.r)})
		}
		at += len(m.bytes)
	}
	return l
}

func sum(l []modelPiece) int {
	n := 0
	for _, p := range l {
		n += p.cells
	}
	return n
}

func joined(l []modelPiece) string {
	var b strings.Builder
	for _, p := range l {
		b.WriteString(p.text)
	}
	return b.String()
}

func modelCut(s string, cells int, mark string) (string, bool) {
	cells = max(cells, 0)
	all := modelPieces(s)
	if sum(all) <= cells {
		return s, false
	}
	if m := sum(modelPieces(mark)); m <= cells {
		cells -= m
	} else {
		mark = ""
	}
	n := 0
	for n < len(all) && sum(all[:n+1]) <= cells {
		n++
	}
	return joined(all[:n]) + mark, true
}

func modelLines(s string, cells int) ([]string, int) {
	var lines []string
	for _, paragraph := range strings.Split(s, "\n") {
		left := modelPieces(paragraph)
		if cells < 1 || len(left) == 0 {
			lines = append(lines, paragraph)
			continue
		}
		for len(left) > 0 {
			n := modelLine(left, cells)
			lines = append(lines, joined(left[:n]))
			left = left[n:]
		}
	}
	widest := 0
	for _, l := range lines {
		widest = max(widest, sum(modelPieces(l)))
	}
	return lines, widest
}

// modelLine is how many of the pieces make the first line.
func modelLine(l []modelPiece, cells int) int {
	n := 1
	for n < len(l) && sum(l[:n+1]) <= cells {
		n++
	}
	if n == len(l) || l[n].first == ' ' {
		return n
	}
	for i := n; i > 0; i-- {
		if l[i-1].first == ' ' {
			return i
		}
	}
	return n
}

func modelClean(s string) string {
	clean := ""
	for _, m := range modelRunes(s) {
		if m.broken {
			clean += "\xef\xbf\xbd"
		} else if m.r == 10 || !modelControl(m.r) {
			clean += m.bytes
		}
	}
	return clean
}

func modelAt(s string) int {
	at := 0
	for _, m := range modelRunes(s) {
		if m.broken {
			return at
		}
		at += len(m.bytes)
	}
	return -1
}

func modelKind(r rune) int {
	if r == 32 || r == 10 || r == 9 {
		return 1
	}
	if unicode.IsLetter(r) || unicode.IsDigit(r) || r == '_' {
		return 2
	}
	return 3
}

// modelGo is what Next, Back and Word answer; -1: there is nothing.
func modelGo(s string, at int) (int, int, int) {
	next, back, word := -1, -1, -1
	kind := 0
	for _, p := range modelPieces(s) {
		end := p.at + len(p.text)
		if at >= 1 && at <= len(s) && p.at < at {
			back = p.at
		}
		if p.at <= at && at < end {
			next, word, kind = end, end, modelKind(p.first)
		} else if word == p.at && modelKind(p.first) == kind {
			word = end
		}
	}
	return next, back, word
}

// told is an answer as a number; -1: there is nothing, and the number beside it is 0.
func told(t *testing.T, n int, is bool) int {
	t.Helper()
	if is {
		return n
	}
	if n != 0 {
		t.Errorf("%d beside false", n)
	}
	return -1
}

// scraps are what the texts of tests are put together from.
func scraps() []string {
	return []string{
		"a", "b", "Z", "7", "_", ".", "-", " ", " ", " ", "\n", "\t", "\x00", "\x1f", "\x7f", "\u0080", "\u009f", "\u00a0", "\u00e9",
		acute, grave, "\u200d", "\ufe0f", "\U000e0100", wide, "\uac00", "\U0001f600", "\U00020000", shown, "\u0661",
		"\xff", "\x80", "\xc2", "\xe4", "\xe4\xb8", "\xf0\x9f\x98", "\xed\xa0\x80", "\xc0\x80", "\xf4\x90\x80\x80",
	}
}

// texts are all of at most two scraps, and many random ones.
func texts() []string {
	all := []string{""}
	few := scraps()
	for _, a := range few {
		all = append(all, a)
		for _, b := range few {
			all = append(all, a+b)
		}
	}
	random := rand.New(rand.NewSource(3))
	for range 3000 {
		s := ""
		for range 1 + random.Intn(24) {
			s += few[random.Intn(len(few))]
		}
		all = append(all, s)
	}
	for range 1000 {
		s := ""
		for range 1 + random.Intn(30) {
			s += []string{" ", "a", "b", "a", wide, acute, "\n", "\x01"}[random.Intn(8)]
		}
		all = append(all, s)
	}
	return all
}

// P3.1
func TestWidth(t *testing.T) {
	for r := rune(-0x200); r <= 0x110200; r++ {
		if got, want := Width(r), modelWidth(r); got != want {
			t.Errorf("Width(%x) = %d, not %d", r, got, want)
		}
	}
	for _, r := range []rune{math.MinInt32, math.MaxInt32, -0x301, -0x4e00, 0x7fff4e00} {
		if Width(r) != 1 {
			t.Errorf("Width(%x) = %d", r, Width(r))
		}
	}
}

// P3.1: both ends of each range, and what lies just outside of it.
func TestWidthEnds(t *testing.T) {
	inside := func(ends []rune, want int, but ...rune) {
		for i, r := range ends {
			if Width(r) != want {
				t.Errorf("Width(%x) = %d, not %d", r, Width(r), want)
			}
			beyond := r - 1
			if i%2 == 1 {
				beyond = r + 1
			}
			if !slices.Contains(but, beyond) && Width(beyond) != 1 {
				t.Errorf("Width(%x) = %d, not 1", beyond, Width(beyond))
			}
		}
	}
	inside([]rune{0, 0x1f, 0x7f, 0x9f}, 0)
	inside(modelMarks(), 0, 0xfe30)
	inside(modelWides(), 2, 0xfe2f, 0x33ff, 0x3400, 0x9fff, 0xa000)
	inside([]rune{0xd800, 0xdfff, 0x10ffff, 0x110000, -1}, 1)
}

// P3.1
func TestCells(t *testing.T) {
	for s, want := range map[string][2]int{
		"":                          {0, 0},
		"a" + wide:                  {3, 2},
		"e" + acute:                 {1, 1},
		"e" + acute + grave + "x":   {2, 2},
		"\xff\xfe":                  {2, 2},
		acute:                       {0, 1},
		acute + grave + "a":         {1, 2},
		"\n" + acute:                {0, 2},
		"\n" + acute + grave + "a":  {1, 3},
		"\u0085" + acute:            {0, 2},
		"\x85" + acute:              {1, 1},
		"\xff" + acute + "\xff":     {2, 2},
		wide + "\xe4\xb8" + wide:    {6, 4},
		wide[:2]:                    {2, 2},
		wide[1:]:                    {2, 2},
		"\xed\xa0\x80":              {3, 3},
		"\xc0\x80":                  {2, 2},
		"\xf4\x90\x80\x80":          {4, 4},
		"\xf4\x8f\xbf\xbf":          {1, 1},
		" " + acute + "\t" + acute:  {1, 3},
		shown + acute:               {1, 1},
		"\U0001f600\ufe0f\u200da":   {3, 2},
		strings.Repeat(wide, 40000): {80000, 40000},
	} {
		if cells, count := Cells(s); cells != want[0] || count != want[1] {
			t.Errorf("Cells(%.20q) = %d, %d, not %v", s, cells, count, want)
		}
	}
	for _, s := range texts() {
		l := modelPieces(s)
		if cells, count := Cells(s); cells != sum(l) || count != len(l) {
			t.Errorf("Cells(%q) = %d, %d, not %d, %d", s, cells, count, sum(l), len(l))
		}
	}
}

// P3.1
func TestAt(t *testing.T) {
	for s, want := range map[string]int{
		"":               -1,
		"ab":             -1,
		"ab\xff":         2,
		"\xffab":         0,
		"a\x80b":         1,
		shown:            -1,
		shown + "\xff":   3,
		wide + wide[:2]:  3,
		"\xed\xa0\x80":   0,
		"\xc0\x80":       0,
		"\xed\x9f\xbf":   -1,
		"\x00":           -1,
		wide + "\xffab":  3,
		"\xf0\x9f\x98":   0,
		"\U0010ffff\xc2": 4,
	} {
		if n := At(s); n != want {
			t.Errorf("At(%q) = %d, not %d", s, n, want)
		}
	}
	for _, s := range texts() {
		if n := At(s); n != modelAt(s) || (n < 0) != utf8.ValidString(s) {
			t.Errorf("At(%q) = %d, not %d", s, n, modelAt(s))
		}
	}
}

// P3.2
func TestCut(t *testing.T) {
	for i, x := range []struct {
		s     string
		cells int
		mark  string
		want  string
		cut   bool
	}{
		{"window", 6, "..", "window", false},
		{"window", 7, "..", "window", false},
		{"window", math.MaxInt, "..", "window", false},
		{"window", 5, "..", "win..", true},
		{"window", 2, "..", "..", true},
		{"window", 1, "..", "w", true},
		{"window", 1, ".", ".", true},
		{"window", 0, "..", "", true},
		{"window", 0, "", "", true},
		{"window", -1, "", "", true},
		{"window", -1, ".", "", true},
		{"window", math.MinInt, acute, acute, true},
		{"", 0, ".", "", false},
		{"", -1, ".", "", false},
		{"\n" + acute, math.MinInt, ".", "\n" + acute, false},
		{wide + wide, 3, ".", wide + ".", true},
		{wide + wide, 3, "", wide, true},
		{wide + wide, 2, ".", ".", true},
		{wide + wide, 1, "", "", true},
		{wide + wide, 1, wide, "", true},
		{wide + wide, 2, wide, wide, true},
		{"ab", 1, wide, "a", true},
		{"ae" + acute + grave + "b", 2, "", "ae" + acute + grave, true},
		// Pieces without a cell, behind the last that fits and ahead of the first that does not.
		{"a\x01\n" + acute + "b", 1, "", "a\x01\n" + acute, true},
		{"\x01" + acute + "ab", 0, "", "\x01" + acute, true},
		{"\x01" + wide + "\x02", 1, ".", "\x01.", true},
		{"a" + wide + "b", 2, "", "a", true}, // b would fit, but the one ahead of it does not
		{"\xff\xfe\xfd", 2, "", "\xff\xfe", true},
		{"\xff\xfe\xfd", 2, "\xfc", "\xff\xfc", true},
		{"a\xe4", 1, "", "a", true},
	} {
		if s, cut := Cut(x.s, x.cells, x.mark); s != x.want || cut != x.cut {
			t.Errorf("Cut %d: %q, %v, not %q, %v", i, s, cut, x.want, x.cut)
		}
	}
	marks := []string{"", ".", "..", wide, acute, "\x01", "\xff", "\xb8\x80", "\x80", ".\n" + wide}
	for i, s := range texts() {
		for cells := -2; cells < 8; cells++ {
			mark := marks[(i+cells+2)%len(marks)]
			got, cut := Cut(s, cells, mark)
			want, is := modelCut(s, cells, mark)
			if got != want || cut != is {
				t.Errorf("Cut(%q, %d, %q) = %q, %v, not %q, %v", s, cells, mark, got, cut, want, is)
			}
		}
	}
}

// P3.3
func TestLines(t *testing.T) {
	for i, x := range []struct {
		s     string
		cells int
		want  []string
		wide  int
	}{
		{"one two three", 7, []string{"one two", " three"}, 7},
		{"one two three", 8, []string{"one two ", "three"}, 8},
		{"one two three", 6, []string{"one ", "two ", "three"}, 5},
		{"one two three", 13, []string{"one two three"}, 13},
		{"one two three", math.MaxInt, []string{"one two three"}, 13},
		{"windows", 3, []string{"win", "dow", "s"}, 3},
		{"a", 0, []string{"a"}, 1},
		{"ab cd\nef", 0, []string{"ab cd", "ef"}, 5},
		{"one two", -1, []string{"one two"}, 7},
		{"one two", math.MinInt, []string{"one two"}, 7},
		{"ab c", 1, []string{"a", "b", " ", "c"}, 1},
		// Paragraphs: one more than line ends.
		{"", 5, []string{""}, 0},
		{"", 0, []string{""}, 0},
		{"\n", 1, []string{"", ""}, 0},
		{"a\n\nb\n", 5, []string{"a", "", "b", ""}, 1},
		{"\n\na", 0, []string{"", "", "a"}, 1},
		{"ab cd\nab cd", 3, []string{"ab ", "cd", "ab ", "cd"}, 3},
		// A piece that is wider than a line.
		{wide + wide, 1, []string{wide, wide}, 2},
		{"a" + wide + "a", 1, []string{"a", wide, "a"}, 2},
		{" " + wide, 1, []string{" ", wide}, 2},
		{wide + "\x01\x02" + wide, 1, []string{wide, "\x01\x02", wide}, 2},
		{wide + " " + wide, 1, []string{wide, " ", wide}, 2},
		{wide + acute + wide, 1, []string{wide + acute, wide}, 2},
		{wide + wide + wide, 2, []string{wide, wide, wide}, 2},
		{"a" + wide, 2, []string{"a", wide}, 2},
		{wide + wide, 3, []string{wide, wide}, 2},
		// What was carried to the next line has no room for the piece either.
		{" ab" + wide, 3, []string{" ", "ab", wide}, 2},
		{" ab" + wide + " cd", 3, []string{" ", "ab", wide + " ", "cd"}, 3},
		// Blanks, at a line's end and elsewhere.
		{"  ab", 2, []string{"  ", "ab"}, 2},
		{"a   b", 2, []string{"a ", "  ", "b"}, 2},
		{"ab  ", 2, []string{"ab", "  "}, 2},
		{"a b c", 3, []string{"a b", " c"}, 3},
		{"a bc d", 3, []string{"a ", "bc ", "d"}, 3},
		{"a b cd", 4, []string{"a b ", "cd"}, 4},
		{"a b" + " cde", 5, []string{"a b ", "cde"}, 4},
		{" ", 1, []string{" "}, 1},
		{"   ", 1, []string{" ", " ", " "}, 1},
		{"abc d", 3, []string{"abc", " d"}, 3},
		// A blank is told by its first rune: marks may stand upon it, and other spaces are none.
		{"a " + acute + "bc", 3, []string{"a " + acute, "bc"}, 2},
		{"ab " + acute + "c", 2, []string{"ab", " " + acute + "c"}, 2},
		{"a\u00a0bc", 3, []string{"a\u00a0b", "c"}, 3},
		{"a\tbc", 2, []string{"a\tb", "c"}, 2},
		// Pieces without a cell stay where they fit.
		{"ab\x01\x02c", 2, []string{"ab\x01\x02", "c"}, 2},
		{"\x01" + acute + "a", 1, []string{"\x01" + acute + "a"}, 1},
		{"a\n" + acute + "b", 1, []string{"a", acute + "b"}, 1},
		{"\xff\xfe" + acute + "\xfd", 1, []string{"\xff", "\xfe" + acute, "\xfd"}, 1},
		{"a\xe4\nb", 5, []string{"a\xe4", "b"}, 2},
	} {
		if l, w := Lines(x.s, x.cells); !slices.Equal(l, x.want) || w != x.wide {
			t.Errorf("Lines %d: %q, %d, not %q, %d", i, l, w, x.want, x.wide)
		}
	}
	for _, s := range texts() {
		for cells := -1; cells < 8; cells++ {
			got, w := Lines(s, cells)
			want, is := modelLines(s, cells)
			if !slices.Equal(got, want) || w != is {
				t.Errorf("Lines(%q, %d) = %q, %d, not %q, %d", s, cells, got, w, want, is)
			}
		}
	}
}

// P3.3: a long text is gone through once, whatever is carried from line to line.
func TestLinesLong(t *testing.T) {
	s := strings.Repeat("a ", 1<<16) + strings.Repeat("b", 1<<16)
	l, w := Lines(s, 1<<16)
	want := []string{s[:1<<16], s[1<<16 : 1<<17], s[1<<17:]}
	if !slices.Equal(l, want) || w != 1<<16 {
		t.Errorf("%d lines, %d cells", len(l), w)
	}
	if l, w = Lines(s, 1); len(l) != 3<<16 || w != 1 {
		t.Errorf("%d lines, %d cells", len(l), w)
	}
}

// P3.4
func TestClean(t *testing.T) {
	for s, want := range map[string]string{
		"":                      "",
		"a\x01b\xff":            "ab" + shown,
		"a\nb\t\x7f\u0085":      "a\nb",
		"\x00\x1f \x7f~":        " ~",
		"\u0080\u009f\u00a0":    "\u00a0",
		"\x85":                  shown,
		wide[:2]:                shown + shown,
		wide[:2] + "a" + wide:   shown + shown + "a" + wide,
		"e\x01" + acute:         "e" + acute,
		acute + "\n" + acute:    acute + "\n" + acute,
		"\xc2\x01\x80":          shown + shown,
		"\xed\xa0\x80" + shown:  strings.Repeat(shown, 4),
		"\r\n\x0b\n":            "\n\n",
		"\u200d\ufe0f\u202e \t": "\u200d\ufe0f\u202e ",
	} {
		if c := Clean(s); c != want {
			t.Errorf("Clean(%q) = %q, not %q", s, c, want)
		}
	}
	for _, s := range texts() {
		if c, want := Clean(s), modelClean(s); c != want {
			t.Errorf("Clean(%q) = %q, not %q", s, c, want)
		}
	}
}

// P3.5
func TestGo(t *testing.T) {
	for i, x := range []struct {
		s                string
		at               int
		next, back, word int
	}{
		{"", 0, -1, -1, -1},
		{"", 1, -1, -1, -1},
		{"", -1, -1, -1, -1},
		{"ab", -1, -1, -1, -1},
		{"ab", math.MinInt, -1, -1, -1},
		{"ab", 0, 1, -1, 2},
		{"ab", 1, 2, 0, 2},
		{"ab", 2, -1, 1, -1},
		{"ab", 3, -1, -1, -1},
		{"ab", math.MaxInt, -1, -1, -1},
		// Inside of a piece, and inside of a rune.
		{"e" + acute + "x", 0, 3, -1, 4},
		{"e" + acute + "x", 1, 3, 0, 4},
		{"e" + acute + "x", 2, 3, 0, 4},
		{"e" + acute + "x", 3, 4, 0, 4},
		{"e" + acute + "x", 4, -1, 3, -1},
		{"." + wide + ".", 1, 4, 0, 4},
		{"." + wide + ".", 2, 4, 1, 4},
		{"." + wide + ".", 3, 4, 1, 4},
		{"." + wide + ".", 4, 5, 1, 5},
		// Broken bytes and what follows them; marks behind controls.
		{"\xff" + acute + "\xfe", 1, 3, 0, 4},
		{"\xff" + acute + "\xfe", 3, 4, 0, 4},
		{"\xe4\xb8x", 1, 2, 0, 2},
		{"\n" + acute + grave + "x", 0, 1, -1, 1},
		{"\n" + acute + grave + "x", 2, 5, 1, 5},
		{"\n" + acute + grave + "x", 5, 6, 1, 6},
		{acute + grave + "x", 3, 4, 0, 4},
		{acute + grave + "x", 4, 5, 0, 5},
		// Kinds.
		{"one two", 0, 1, -1, 3},
		{"one two", 1, 2, 0, 3},
		{"one two", 3, 4, 2, 4},
		{"one \n\ttwo", 3, 4, 2, 6},
		{"one \n\ttwo", 5, 6, 4, 6},
		{"one \n\ttwo", 6, 7, 5, 9},
		{"a..b", 1, 2, 0, 3},
		{"a_7 ", 0, 1, -1, 3},
		{"_", 0, 1, -1, 1},
		{"7_a.", 0, 1, -1, 3},
		{" \x01 ", 0, 1, -1, 1},
		{"\x01. ", 0, 1, -1, 2},
		{" \u00a0", 0, 1, -1, 1},
		{"\r\n", 0, 1, -1, 1},
		{" " + acute + " a", 0, 3, -1, 4},
		{"a" + acute + "." + acute, 1, 3, 0, 3},
		{"\u0661" + wide + "\u00e9\u00b2", 0, 2, -1, 7}, // digits and letters of all scripts, but no number that is no digit
		{"a" + shown, 0, 1, -1, 1},
		{"\xff-" + shown + "a", 0, 1, -1, 5},
	} {
		n, is := Next(x.s, x.at)
		next := told(t, n, is)
		n, is = Back(x.s, x.at)
		back := told(t, n, is)
		n, is = Word(x.s, x.at)
		word := told(t, n, is)
		if next != x.next || back != x.back || word != x.word {
			t.Errorf("Next, Back, Word %d: %d, %d, %d, not %d, %d, %d", i, next, back, word, x.next, x.back, x.word)
		}
	}
	for _, s := range texts() {
		for at := -1; at <= len(s)+1; at++ {
			next, back, word := modelGo(s, at)
			if n, is := Next(s, at); told(t, n, is) != next {
				t.Errorf("Next(%q, %d) = %d, %v, not %d", s, at, n, is, next)
			}
			if n, is := Back(s, at); told(t, n, is) != back {
				t.Errorf("Back(%q, %d) = %d, %v, not %d", s, at, n, is, back)
			}
			if n, is := Word(s, at); told(t, n, is) != word {
				t.Errorf("Word(%q, %d) = %d, %v, not %d", s, at, n, is, word)
			}
		}
	}
}

// P3.6: Cut.
func TestCutFits(t *testing.T) {
	marks := []string{"", ".", "...", wide, acute, "\xb8\x80", "\x80\x80", "\x01" + acute}
	for i, s := range texts() {
		all, _ := Cells(s)
		for cells := -1; cells <= all; cells++ {
			cut, is := Cut(s, cells, marks[i%len(marks)])
			if n, _ := Cells(cut); n > max(cells, 0) {
				t.Errorf("Cut(%q, %d, %q) has %d cells", s, cells, marks[i%len(marks)], n)
			}
			if is != (all > max(cells, 0)) {
				t.Errorf("Cut(%q, %d, %q): %v", s, cells, marks[i%len(marks)], is)
			}
		}
	}
}

// P3.6: lines.
func TestLinesAreTheText(t *testing.T) {
	for _, s := range texts() {
		all, _ := Cells(s)
		ends, _ := Lines(s, 0)
		if strings.Join(ends, "\n") != s {
			t.Errorf("Lines(%q, 0) = %q", s, ends)
		}
		for cells := 1; cells < 6; cells++ {
			lines, widest := Lines(s, cells)
			together, greatest := 0, 0
			for _, l := range lines {
				n, _ := Cells(l)
				together += n
				greatest = max(greatest, n)
			}
			if together != all || greatest != widest || cells > 1 && widest > cells {
				t.Errorf("Lines(%q, %d): %d of %d cells, widest %d, told %d", s, cells, together, all, greatest, widest)
			}
			for _, paragraph := range ends { // each takes lines till it is whole
				whole := lines[0]
				lines = lines[1:]
				for len(whole) < len(paragraph) {
					whole += lines[0]
					lines = lines[1:]
				}
				if whole != paragraph {
					t.Errorf("Lines(%q, %d): %q is no paragraph", s, cells, whole)
				}
			}
			if len(lines) != 0 {
				t.Errorf("Lines(%q, %d): %q is too much", s, cells, lines)
			}
		}
	}
}

// P3.6: Next and Back.
func TestThereAndBack(t *testing.T) {
	for _, s := range texts() {
		var ends, begins []int
		at, is := 0, s != ""
		for is {
			begins = append(begins, at)
			if at, is = Next(s, at); is {
				ends = append(ends, at)
			}
			is = is && at < len(s)
		}
		if _, count := Cells(s); len(ends) != count || count > 0 && ends[count-1] != len(s) {
			t.Errorf("%q: ends %v of %d pieces", s, ends, count)
		}
		at = len(s)
		var back []int
		for range begins {
			at, is = Back(s, at)
			if !is {
				t.Fatalf("%q: no way back", s)
			}
			back = append(back, at)
		}
		slices.Reverse(back)
		if !slices.Equal(back, begins) {
			t.Errorf("%q: there %v, back %v", s, begins, back)
		}
		if at, is = Back(s, at); s != "" && (at != 0 || is) {
			t.Errorf("%q: Back from 0: %d, %v", s, at, is)
		}
	}
}

// P3.7
func TestCleanIsClean(t *testing.T) {
	for _, s := range texts() {
		c := Clean(s)
		if again := Clean(c); again != c {
			t.Errorf("Clean(%q) = %q, and again %q", s, c, again)
		}
		if !utf8.ValidString(c) || At(c) != -1 {
			t.Errorf("Clean(%q) = %q is broken", s, c)
		}
		for _, r := range c {
			if modelControl(r) && r != '\n' {
				t.Errorf("Clean(%q) = %q has a control", s, c)
			}
		}
		before, _ := Cells(s)
		if after, _ := Cells(c); after != before {
			t.Errorf("Clean(%q) = %q: %d cells, not %d", s, c, after, before)
		}
	}
}
