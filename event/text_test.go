package event

import (
	"fmt"
	"strings"
	"testing"

	"casement/api"
)

// textOf is an event of the kind EventText.
func textOf(s string) api.Event { return api.Event{Kind: api.EventText, Text: s} }

// writes asks for an event's text, and for the event that it tells.
func writes(t *testing.T, e api.Event, want string) {
	t.Helper()
	if got, err := Text(e); got != want || err != api.OK {
		t.Errorf("Text(%+v): %q, %d; %q", e, got, err, want)
	}
	if got, at, err := Parse(want); got != e || at != 0 || err != api.OK {
		t.Errorf("Parse(%q): %+v, %d, %d; %+v", want, got, at, err, e)
	}
	textAgrees(t, e)
	parseAgrees(t, want)
}

// P19.4: the chapter's examples, and each kind.
func TestExamplesOfText(t *testing.T) {
	writes(t, api.Event{Kind: api.EventKey, Key: api.Key{Name: "x", Mods: 2}}, "key 2 x")
	writes(t, textOf("a b"), "text a%20b")
	writes(t, api.Event{Kind: api.EventDown, At: api.Point{X: -1, Y: 4}, N: 1}, "down -1 4 1")
	for i, want := range []string{"key 5 tab", "text a%20b", "down 5 -7 1", "up 5 -7 2", "move 5 -7", "wheel 5 -7 -3", "tick 9", "resize 80 25", "drag 5 -7 file", "drop 5 -7 file"} {
		writes(t, samples()[i], want)
	}
}

// P19.4: numbers at their ends, and 0.
func TestNumbersInTexts(t *testing.T) {
	for n, want := range map[int]string{0: "0", -1: "-1", 10: "10", -100: "-100", 16384: "16384", -16384: "-16384"} {
		writes(t, api.Event{Kind: api.EventMove, At: api.Point{X: n, Y: 1}}, "move "+want+" 1")
		writes(t, api.Event{Kind: api.EventMove, At: api.Point{X: 1, Y: n}}, "move 1 "+want)
		writes(t, api.Event{Kind: api.EventDrop, At: api.Point{X: n, Y: -n}, Text: "-"}, fmt.Sprintf("drop %s %d -", want, -n))
		if n != 0 {
			writes(t, api.Event{Kind: api.EventWheel, N: n}, "wheel 0 0 "+want)
		}
		if n > 0 {
			writes(t, api.Event{Kind: api.EventTick, N: n}, "tick "+want)
		}
	}
	writes(t, api.Event{Kind: api.EventTick, N: 1 << 20}, "tick 1048576")
	writes(t, api.Event{Kind: api.EventResize}, "resize 0 0")
	writes(t, api.Event{Kind: api.EventResize, Size: api.Size{W: 32768, H: 1}}, "resize 32768 1")
	writes(t, api.Event{Kind: api.EventResize, Size: api.Size{H: 32768}}, "resize 0 32768")
	for mods := range 8 {
		writes(t, api.Event{Kind: api.EventKey, Key: api.Key{Name: "-1", Mods: uint8(mods)}}, fmt.Sprintf("key %d -1", mods))
	}
}

// P19.4: each byte alone, between others, and all of them.
func TestEscaped(t *testing.T) {
	var all, escaped strings.Builder
	for b := range 256 {
		plain, one := string([]byte{byte(b)}), fmt.Sprintf("%%%02x", b)
		if b > 32 && b < 127 && b != '%' {
			one = plain
		}
		writes(t, textOf(plain), "text "+one)
		writes(t, textOf("a"+plain+"2"), "text a"+one+"2")
		writes(t, api.Event{Kind: api.EventDrag, Text: plain + plain}, "drag 0 0 "+one+one)
		if b < 128 {
			writes(t, api.Event{Kind: api.EventKey, Key: api.Key{Name: plain}}, "key 0 "+one)
		}
		all.WriteString(plain)
		escaped.WriteString(one)
	}
	writes(t, textOf(all.String()), "text "+escaped.String())
	writes(t, textOf("%20 %"), "text %2520%20%25")
	writes(t, textOf("text a"), "text text%20a")
	writes(t, api.Event{Kind: api.EventKey, Key: api.Key{Name: "ä€"}}, "key 0 %c3%a4%e2%82%ac")
	writes(t, api.Event{Kind: api.EventDrop, Text: "ä"}, "drop 0 0 %c3%a4")
	writes(t, api.Event{Kind: api.EventDrop, Text: strings.Repeat("\xff", api.MaxName)}, "drop 0 0 "+strings.Repeat("%ff", api.MaxName))
	writes(t, api.Event{Kind: api.EventKey, Key: api.Key{Name: strings.Repeat("\n", api.MaxName), Mods: 7}}, "key 7 "+strings.Repeat("%0a", api.MaxName))
}

// P19.4: texts of just as many bytes as may be, and of one more, as they are and by escaping alone.
func TestLongTexts(t *testing.T) {
	const room = api.MaxText - len("text ")
	writes(t, textOf(strings.Repeat("a", room)), "text "+strings.Repeat("a", room))
	writes(t, textOf(strings.Repeat(" ", room/3)+strings.Repeat("a", room%3)), "text "+strings.Repeat("%20", room/3)+strings.Repeat("a", room%3))
	for name, s := range map[string]string{
		"one byte more":                 strings.Repeat("a", room+1),
		"as many as an event may have":  strings.Repeat("a", api.MaxText),
		"one byte more by escaping":     strings.Repeat("a", room-2) + " ",
		"many more by escaping":         strings.Repeat("\xff", room/3+1),
		"as many as may be, all marked": strings.Repeat("%", api.MaxText),
	} {
		if e := Check(textOf(s)); e != api.OK {
			t.Errorf("Check of %s: %d", name, e)
		}
		if got, e := Text(textOf(s)); got != "" || e != api.ErrText {
			t.Errorf("Text of %s: %d bytes, %d", name, len(got), e)
		}
	}
	writes(t, textOf(strings.Repeat("a", room-3)+" "), "text "+strings.Repeat("a", room-3)+"%20")
	if got, e := Text(textOf(strings.Repeat("a", api.MaxText+1))); got != "" || e != api.ErrEvent { // what may not be is told ahead of what is too long
		t.Errorf("Text of what may not be: %d bytes, %d", len(got), e)
	}
}
