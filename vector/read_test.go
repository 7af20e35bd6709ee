package vector

import (
	"errors"
	"slices"
	"strings"
	"testing"

	"casement/api"
)

// refused asks Read of a text a piece of which is wrong.
func refused(t *testing.T, s string, at int) {
	t.Helper()
	l, z, got, e := Read(s)
	if !isNothing(l, z) || got != at || e != api.ErrVector {
		t.Errorf("Read(%q): %v, %v, %d, %d; %d", s, l, z, got, e, at)
	}
}

// placed is a text with a $ in the place that Read must tell, and that place.
func placed(s string) (string, int) {
	at := strings.Index(s, "$")
	return s[:at] + s[at+1:], at
}

// P16.2: the first line, the last one, and what is behind it.
func TestFirstAndLast(t *testing.T) {
	for _, x := range []string{
		"$", "$<", "$<shapes", "$<shapes w=", "$<shapes w=x", "$ <shapes w=\"8\" h=\"3\">\n</shapes>\n", "$\n" + head + tail, "$" + tail, "$<fill x=\"0\"", "$</clip n=\"0\">\n", "$<shapes h=\"3\" w=\"8\">\n</shapes>\n", "$<shapes  w=\"8\"", "$<Shapes w=\"8\"",
		"<shapes w=\"$", "<shapes w=\"$\"", "<shapes w=\"8$", "<shapes w=\"8$ ", "<shapes w=\"8$\" h=", "<shapes w=\"8\" h=\"$", "<shapes w=\"8\" h=\"3$\">", "<shapes w=\"8\" h=\"3$\"", "<shapes w=\"8\" h=\"3$\"/>\n</shapes>\n", "<shapes w=\"8\" h=\"3$\">\r\n</shapes>\n", "<shapes w=\"8\" h=\"3$\"></shapes>\n", "<shapes w=\"8\" h=\"3$\" >\n", "<shapes w=\"8\" h=\"3$\" n=\"0\">\n",
		head + "$", head + "$</shapes>", head + "$</shapes>\r\n", head + "$</shapes >\n", head + "$ </shapes>\n", head + "$\n</shapes>\n", head + "$</Shapes>\n", head + "$/shapes>\n",
		head + tail + "$x", head + tail + "$\n", head + tail + "$" + tail, head + tail + "$" + head + tail, head + tail + "$<fill x=\"0\"", head + tail + "$\x00", head + tail + "$\xff",
		head + "$" + head + tail, head + "$<shapes w=\"08\" h=\"3\">\n" + tail,
	} {
		s, at := placed(x)
		refused(t, s, at)
	}
	_, lines := all()
	for i, x := range lines {
		before := head + strings.Join(lines[:i], "")
		refused(t, before+head+x+tail, len(before))
		refused(t, before+"\n"+x+tail, len(before))
		refused(t, before+" "+x+tail, len(before))
		refused(t, before+tail+x+tail, len(before)+len(tail))
	}
}

// P16.2: lines that begin as other ones.
func TestLinesThatBeginAsOthers(t *testing.T) {
	for _, x := range []string{
		"$<fill y=\"0\"", "$<fill x=0", "$<fill  x=\"0\"", "$<fill", "$<filled x=\"0\"", "$<f", "$<fr", "$<frame", "$<frame w=\"0\"", "$<fram x=\"0\"", "$<Fill x=\"0\"", "$<FRAME x=\"0\"",
		"$<write", "$<write c=\"#f00\"", "$<writ x=\"0\"", "$</write>\n", "$<clip", "$<clip n=\"0\">\n", "$</clip>\n", "$</clip x=\"0\"", "$</clip  n=\"0\">\n", "$</fill x=\"0\"", "$</frame n=\"0\">\n", "$</c", "$</s", "$</", "$<", "$<!--", "$fill x=\"0\"", "$a", "$\x00", "$\xff", "$&", "$-1", "$#f00",
	} {
		s, at := placed(head + x + tail)
		refused(t, s, at)
		refused(t, s[:len(s)-len(tail)], at)
	}
}

// P16.2: fields that a kind has not, that are missing, in another order, or twice; lines without their own ends.
func TestFieldsAndEnds(t *testing.T) {
	for _, x := range []string{
		"<fill x=\"0\" y=\"0\" w=\"1\" h=\"1\" c=\"#f00$\" b=\"#f00\" n=\"0\"/>\n",
		"<fill x=\"0\" y=\"0\" w=\"1\" h=\"1$\" n=\"0\"/>\n",
		"<fill x=\"0\" y=\"0\" w=\"1\" h=\"1$\" n=\"0\" c=\"#f00\"/>\n",
		"<fill x=\"0\" y=\"0\" w=\"1\" h=\"1\" c=\"#f00$\"/>\n",
		"<fill x=\"0$\" w=\"1\" h=\"1\" c=\"#f00\" n=\"0\"/>\n",
		"<fill x=\"0$\" x=\"0\" y=\"0\" w=\"1\" h=\"1\" c=\"#f00\" n=\"0\"/>\n",
		"<fill x=\"0\" y=\"0$\" h=\"1\" w=\"1\" c=\"#f00\" n=\"0\"/>\n",
		"<fill x=\"0\" y=\"0\" w=\"1$\" c=\"#f00\" n=\"0\"/>\n",
		"<fill x=\"0\" y=\"0\" w=\"1\" h=\"1\" c=\"#f00\" n=\"0$\">\n",
		"<fill x=\"0\" y=\"0\" w=\"1\" h=\"1\" c=\"#f00\" n=\"0$\">a</fill>\n",
		"<fill x=\"0\" y=\"0\" w=\"1\" h=\"1\" c=\"#f00\" n=\"0$\" />\n",
		"<fill x=\"0\" y=\"0\" w=\"1\" h=\"1\" c=\"#f00\" n=\"0$\"/>",
		"<fill x=\"0\" y=\"0\" w=\"1\" h=\"1\" c=\"#f00\" n=\"0$\"/>\r\n",
		"<fill x=\"0\" y=\"0\" w=\"1\" h=\"1\" c=\"#f00\" n=\"0$\"/> \n",
		"<frame x=\"0\" y=\"0\" w=\"1\" h=\"1\" c=\"#f00$\" b=\"#f00\" n=\"0\"/>\n",
		"<frame x=\"0\" y=\"0\" w=\"1\" h=\"1\" c=\"#f00\" n=\"0$\">\n",
		"<frame x=\"0\" y=\"0\" w=\"1\" h=\"1\" c=\"#f00\" n=\"0$\"/>",
		"<write x=\"0\" y=\"0\" w=\"1\" h=\"1\" c=\"#f00$\" n=\"0\">a</write>\n",
		"<write x=\"0\" y=\"0\" w=\"1\" h=\"1$\" b=\"#f00\" c=\"#f00\" n=\"0\">a</write>\n",
		"<write x=\"0\" y=\"0\" w=\"1\" h=\"1\" c=\"#f00\" b=\"#f00\" n=\"0$\"/>\n",
		"<write x=\"0\" y=\"0\" w=\"1\" h=\"1\" c=\"#f00\" b=\"#f00\" n=\"0$\" t=\"1\">a</write>\n",
		"<write x=\"0\" y=\"0\" w=\"1\" h=\"1\" c=\"#f00\" b=\"#f00\" n=\"0\">a$</write>",
		"<write x=\"0\" y=\"0\" w=\"1\" h=\"1\" c=\"#f00\" b=\"#f00\" n=\"0\">a$</writ>\n",
		"<write x=\"0\" y=\"0\" w=\"1\" h=\"1\" c=\"#f00\" b=\"#f00\" n=\"0\">a$</write>\r\n",
		"<write x=\"0\" y=\"0\" w=\"1\" h=\"1\" c=\"#f00\" b=\"#f00\" n=\"0\">$</shapes>\n",
		"<write x=\"0\" y=\"0\" w=\"1\" h=\"1\" c=\"#f00\" b=\"#f00\" n=\"0\">a$<b</write>\n",
		"<clip x=\"0\" y=\"0\" w=\"1\" h=\"1$\" c=\"#f00\" n=\"0\">\n",
		"<clip x=\"0\" y=\"0\" w=\"1\" h=\"1$\">\n",
		"<clip x=\"0\" y=\"0\" w=\"1\" h=\"1\" n=\"0$\"/>\n",
		"<clip x=\"0\" y=\"0\" w=\"1\" h=\"1\" n=\"0$\">",
		"</clip n=\"0$\" x=\"0\">\n",
		"</clip n=\"0$\"/>\n",
		"</clip n=\"0$\">",
	} {
		s, at := placed(head + x + tail)
		refused(t, s, at)
	}
}

// numbered are texts with a number in each place in which one stands, ahead of it and behind it.
func numbered() [][2]string {
	var l [][2]string
	_, lines := all()
	text := whole(lines...)
	for at := range text {
		for _, name := range []string{" w=\"", " h=\"", " x=\"", " y=\"", " n=\""} {
			if strings.HasPrefix(text[at:], name) {
				ahead, behind := text[:at+len(name)], text[at+len(name):]
				l = append(l, [2]string{ahead, behind[strings.Index(behind, "\""):]})
			}
		}
	}
	return l
}

// P16.2: numbers in their one form, in each place.
func TestNumbers(t *testing.T) {
	places := numbered()
	if len(places) != 28 {
		t.Fatalf("%d numbers", len(places))
	}
	for _, p := range places {
		for _, n := range []string{"", "-", "-0", "00", "01", "-01", "000000000", "0000000001", "1000000000", "-1000000000", "9999999999", "12345678901234567890", "-99999999999999999999", "--1", "+1", " 1", "x", "a", "#", "_1", "\u0661"} {
			refused(t, p[0]+n+p[1], len(p[0]))
		}
		// What is no minus at the beginning and no digit is none of the number.
		for _, n := range []string{"1-", "1-2", "0-", "0x1", "1 ", "1.0", "1e3", "12a", "999999999x", "-5-", "1+"} {
			refused(t, p[0]+n+p[1], len(p[0])+len(modelNumberRun.FindString(n)))
		}
		for _, n := range []string{"0", "1", "9", "10", "-1", "-10", "16384", "999999999", "-999999999"} {
			s := p[0] + n + p[1]
			want, z, _, ok := modelShapes(s)
			if l, size, err := shapes(s); err != nil || !ok || !slices.Equal(l, want) || size != z {
				t.Errorf("%q: %v, %v, %v; %v, %v", s, l, size, err, want, z)
			}
			_, _, at, e := Read(s)
			if _, _, place, f := modelRead(s); at != place || at != 0 || e != f {
				t.Errorf("Read(%q): %d, %d; %d", s, at, e, f)
			}
		}
	}
}

// P16.2: colours in their one form, of each field.
func TestWrongColours(t *testing.T) {
	const lines = "<fill x=\"0\" y=\"0\" w=\"1\" h=\"1\" c=\"$\" n=\"0\"/>\n" + "<frame x=\"0\" y=\"0\" w=\"1\" h=\"1\" c=\"$\" n=\"0\"/>\n" + "<write x=\"0\" y=\"0\" w=\"1\" h=\"1\" c=\"$\" b=\"$\" n=\"0\">a</write>\n"
	pieces := strings.Split(whole(lines), "$")
	for i := range len(pieces) - 1 {
		ahead, behind := strings.Join(pieces[:i+1], "#f00"), strings.Join(pieces[i+1:], "#f00")
		for _, c := range []string{
			"", "#", "##", "f00", "#f", "#ff", "#f000", "#f0000", "#ff000", "#ff00000", "#ff0000000", "#ff00000000", // lengths
			"#F00", "#fF0", "#FFF", "#FF0001", "#01020A", "#0102030A", "#ABCDEF", // great ones
			"#ff0000", "#112233", "#ffffff", "#000000", "#ff0000ff", "#010203ff", "#112233ff", "#000000ff", // such as are written otherwise
			"#f00#", "##f00", "#f#0", "f#00", "#f00#f00", "ff0000", "0", "#-1", // a # elsewhere, none
			"#g00", "red", " #f00", "\"#f00", "x", "\x00", "\xff",
		} {
			refused(t, ahead+c+behind, len(ahead))
		}
		for _, c := range []string{"#f00 ", "#f00x", "#f00g", "#f00-", "#010203\n", "#01020304z"} {
			refused(t, ahead+c+behind, len(ahead)+len(c)-1)
		}
	}
}

// P16.2: within an escaped text the place that Plain tells, counted on.
func TestWrongTexts(t *testing.T) {
	const ahead = head + "<write x=\"0\" y=\"0\" w=\"4\" h=\"4\" c=\"#f00\" b=\"#f00\" n=\"0\">"
	for _, x := range []string{"$ ", "a$ b", "a$\n", "a$\x00", "a$\x7f", "a$\x80", "a$\xff", "a$>", "a$\"", "$&", "$&2", "$&20", "a$&2C;", "a&20;$&61;", "a&20;b$&", "&20;&26;$&lt;", "$\u4e00", "ab$&zz; ", "ab$ &zz;"} {
		text, at := placed(x)
		if _, place, _ := Plain(text); place != at {
			t.Errorf("Plain(%q): %d, not %d", text, place, at)
		}
		refused(t, ahead+text+"</write>\n"+tail, len(ahead)+at)
		refused(t, ahead+text+"</write>\n", len(ahead)+at)
		refused(t, ahead+text, len(ahead)+at)
		refused(t, ahead+text+"<", len(ahead)+at)
	}
	// A text that is right goes on up to the text's end, where the next piece begins.
	for _, x := range []string{"", "a", "a&20;", "&ff;"} {
		refused(t, ahead+x, len(ahead)+len(x))
		refused(t, ahead+x+"<", len(ahead)+len(x))
		refused(t, ahead+x+"</write>", len(ahead)+len(x))
		refused(t, ahead+x+"</write>\n", len(ahead)+len(x)+len("</write>\n"))
	}
}

// P16.2: a text that is cut at each of its bytes, and one of which each byte is left out, twice, or another one.
func TestEachByteOfAText(t *testing.T) {
	l, lines := all()
	text := modelText(l, size(8, 3))
	if text != whole(lines...) {
		t.Fatal(text)
	}
	for at := range text {
		changed := []string{text[:at], text[at:], text[:at] + text[at+1:], text[:at+1] + text[at:]}
		for b := range 256 {
			changed = append(changed, text[:at]+string([]byte{byte(b)})+text[at+1:])
		}
		for _, s := range changed {
			agrees(t, s)
		}
		if _, _, _, e := Read(text[:at]); e != api.ErrVector {
			t.Errorf("Read of the first %d bytes: %d", at, e)
		}
	}
}

// agrees asks Read of a text as the model does, and Text of what was read.
func agrees(t *testing.T, s string) api.Errno {
	t.Helper()
	l, z, at, e := Read(s)
	want, wantSize, place, f := modelRead(s)
	if !slices.Equal(l, want) || z != wantSize || at != place || e != f {
		t.Fatalf("Read(%q): %v, %v, %d, %d; %v, %v, %d, %d", s, l, z, at, e, want, wantSize, place, f)
	}
	if e == api.OK {
		if again, e := Text(l, z); again != s || e != api.OK {
			t.Fatalf("Text(%v, %v): %q, %d; %q", l, z, again, e, s)
		}
	}
	return e
}

// P16.2: within each fixed piece, wherever it is cut or changed, the place is that of its first byte.
func TestFixedPieces(t *testing.T) {
	pieces := []string{
		"<shapes w=\"", "8", "\" h=\"", "3", "\">\n",
		"<fill x=\"", "0", "\" y=\"", "0", "\" w=\"", "1", "\" h=\"", "1", "\" c=\"", "#f00", "\" n=\"", "0", "\"/>\n",
		"<clip x=\"", "0", "\" y=\"", "0", "\" w=\"", "1", "\" h=\"", "1", "\" n=\"", "0", "\">\n",
		"<frame x=\"", "0", "\" y=\"", "0", "\" w=\"", "1", "\" h=\"", "1", "\" c=\"", "#f00", "\" n=\"", "0", "\"/>\n",
		"</clip n=\"", "0", "\">\n",
		"<write x=\"", "0", "\" y=\"", "0", "\" w=\"", "1", "\" h=\"", "1", "\" c=\"", "#f00", "\" b=\"", "#f00", "\" n=\"", "0", "\">", "x", "</write>\n",
		"</shapes>\n",
	}
	text := strings.Join(pieces, "")
	if _, _, _, e := Read(text); e != api.OK {
		t.Fatalf("Read(%q): %d", text, e)
	}
	from := 0
	for _, x := range pieces {
		for i := range x {
			if len(x) == 1 || x[0] == '#' {
				continue // what is told
			}
			refused(t, text[:from+i], from)
			refused(t, text[:from+i]+"\x00"+text[from+i:], from)
			refused(t, text[:from+i]+"\x00"+text[from+i+1:], from)
		}
		from += len(x)
	}
}

// P16.2 ('Ways'): what leaves the reader wraps the place.
func TestErrorsWrapTheirPlaces(t *testing.T) {
	for _, x := range []struct {
		s  string
		at int
	}{{"", 0}, {head[:20], 18}, {"<shapes w=\"08\"", 11}, {head, 21}, {head + tail + "x", 31}, {head + "<write x=\"0\" y=\"0\" w=\"4\" h=\"4\" c=\"#f00\" b=\"#f00\" n=\"0\">a b", 77}} {
		l, z, err := shapes(x.s)
		var f *api.Fault
		if !isNothing(l, z) || err == nil || err.Error() == "" || !errors.As(err, &f) || *f != (api.Fault{Code: api.ErrVector, At: x.at}) || errors.Unwrap(err) != error(f) {
			t.Errorf("%q: %v, %v, %v", x.s, l, z, err)
		}
	}
	if f := faultOf(errors.New("another one")); f != (api.Fault{Code: api.ErrVector}) {
		t.Errorf("%v", f)
	}
}

// The chapter's examples.
func TestExamples(t *testing.T) {
	bothWays(t, nil, size(8, 3), "<shapes w=\"8\" h=\"3\">\n</shapes>\n")
	bothWays(t, []api.Stroke{fill(rect(-1, 0, 4, 4), red, 2)}, size(8, 3), whole("<fill x=\"-1\" y=\"0\" w=\"4\" h=\"4\" c=\"#f00\" n=\"2\"/>\n"))
	bothWays(t, []api.Stroke{write(rect(0, 0, 9, 1), "a b", white, none, 0)}, size(8, 3), whole("<write x=\"0\" y=\"0\" w=\"9\" h=\"1\" c=\"#fff\" b=\"#00000000\" n=\"0\">a&20;b</write>\n"))
	refused(t, "", 0)
	refused(t, "<shapes w=\"8\" h=\"3\">", 18)
	refused(t, "<shapes w=\"08\"", 11)
	refused(t, "<shapes w=\"8\" h=\"3\">\n<fill x=\"0\" y=\"0\" w=\"4\" h=\"4\" c=\"#ff0000\" n=\"0\"/>", 54)
	got, at, e := Screen("<shapes w=\"1\" h=\"1\">\n<fill x=\"0\" y=\"0\" w=\"1\" h=\"1\" c=\"#f00\" n=\"0\"/>\n</shapes>\n", none)
	if at != 0 || e != api.OK || got.Size != size(1, 1) || !slices.Equal(got.Cells, []api.Cell{{Rune: ' ', Back: red}}) {
		t.Errorf("Screen: %v, %d, %d", got, at, e)
	}
}
