package event

import (
	"math"
	"strings"
	"testing"

	"casement/api"
)

// wordsOf are the words by the kinds, as the chapter has them.
func wordsOf() []string {
	return []string{"", "key", "text", "down", "up", "move", "wheel", "tick", "resize", "drag", "drop"}
}

// samples are an event of each kind, in their order.
func samples() []api.Event {
	at := api.Point{X: 5, Y: -7}
	return []api.Event{
		{Kind: api.EventKey, Key: api.Key{Name: "tab", Mods: 5}},
		{Kind: api.EventText, Text: "a b"},
		{Kind: api.EventDown, At: at, N: 1},
		{Kind: api.EventUp, At: at, N: 2},
		{Kind: api.EventMove, At: at},
		{Kind: api.EventWheel, At: at, N: -3},
		{Kind: api.EventTick, N: 9},
		{Kind: api.EventResize, Size: api.Size{W: 80, H: 25}},
		{Kind: api.EventDrag, At: at, Text: "file"},
		{Kind: api.EventDrop, At: at, Text: "file"},
	}
}

// may asks whether an event may be, by all calls that are handed one.
func may(t *testing.T, e api.Event, want bool) {
	t.Helper()
	err := api.OK
	if !want {
		err = api.ErrEvent
	}
	if got := Check(e); got != err {
		t.Errorf("Check(%+v): %d, not %d", brief(e), got, err)
	}
	textAgrees(t, e)
	told, stop, got := Send(tee(), []api.Handler{{Kind: 1, Phase: 2}}, e, 1)
	if got != err || len(told) > 0 || want && stop != -1 || !want && stop != 0 {
		t.Errorf("Send of %+v: %q, %d, %d, not %d", brief(e), told, stop, got, err)
	}
}

// brief is an event whose texts are short enough to be told.
func brief(e api.Event) api.Event {
	e.Text, e.Key.Name = e.Text[:min(len(e.Text), 80)], e.Key.Name[:min(len(e.Key.Name), 80)]
	return e
}

// P19.1: the chapter's examples, and one of each kind.
func TestExamplesOfCheck(t *testing.T) {
	may(t, api.Event{Kind: api.EventTick}, false)
	may(t, api.Event{Kind: api.EventMove, Text: "a"}, false)
	may(t, api.Event{Kind: api.EventWheel}, false)
	may(t, api.Event{Kind: 11}, false)
	for i, e := range samples() {
		if int(e.Kind) != i+1 {
			t.Fatal(i, e)
		}
		may(t, e, true)
	}
}

// P19.1: no other kind is one, whatever it has.
func TestOtherKinds(t *testing.T) {
	for kind := range 256 {
		if kind >= 1 && kind <= 10 {
			continue
		}
		may(t, api.Event{Kind: uint8(kind)}, false)
		for _, e := range samples() {
			e.Kind = uint8(kind)
			may(t, e, false)
		}
	}
}

// P19.1: each field that a kind does not have must be zero; an event without what it must have may not be.
func TestFields(t *testing.T) {
	changes := map[rune]func(e *api.Event){
		'm': func(e *api.Event) { e.Key.Mods = 1 },
		'n': func(e *api.Event) { e.Key.Name = "a" },
		'x': func(e *api.Event) { e.At.X = 1 },
		'y': func(e *api.Event) { e.At.Y = -1 },
		'N': func(e *api.Event) { e.N = 1 },
		'-': func(e *api.Event) { e.N = -1 },
		't': func(e *api.Event) { e.Text = "a" },
		'0': func(e *api.Event) { e.Text = "\x00" },
		'W': func(e *api.Event) { e.Size.W = 1 },
		'H': func(e *api.Event) { e.Size.H = 1 },
	}
	has := []string{"mn", "t0", "xyN", "xyN", "xy", "xyN-", "N", "WH", "xyt0", "xyt0"}
	for i, e := range samples() {
		for field, change := range changes {
			other := e
			change(&other)
			may(t, other, strings.ContainsRune(has[i], field))
		}
		may(t, api.Event{Kind: e.Kind}, e.Kind == api.EventMove || e.Kind == api.EventResize)
		for _, all := range samples() { // all that another kind has
			all.Kind = e.Kind
			may(t, all, modelMay(all))
		}
	}
}

// P19.1: each number at its ends and one beyond, and far beyond.
func TestNumbers(t *testing.T) {
	with := func(kind uint8, change func(e *api.Event, n int)) func(n int) api.Event {
		return func(n int) api.Event {
			e := samples()[kind-1]
			change(&e, n)
			return e
		}
	}
	type row struct {
		least, most int
		event       func(n int) api.Event
	}
	count := func(e *api.Event, n int) { e.N = n }
	rows := []row{
		{1, 3, with(api.EventDown, count)},
		{1, 3, with(api.EventUp, count)},
		{-16384, 16384, with(api.EventWheel, count)},
		{1, 1048576, with(api.EventTick, count)},
		{0, 32768, with(api.EventResize, func(e *api.Event, n int) { e.Size.W = n })},
		{0, 32768, with(api.EventResize, func(e *api.Event, n int) { e.Size.H = n })},
	}
	for _, kind := range []uint8{api.EventDown, api.EventUp, api.EventMove, api.EventWheel, api.EventDrag, api.EventDrop} {
		rows = append(rows, row{-16384, 16384, with(kind, func(e *api.Event, n int) { e.At.X = n })})
		rows = append(rows, row{-16384, 16384, with(kind, func(e *api.Event, n int) { e.At.Y = n })})
	}
	for _, x := range rows {
		for _, n := range []int{x.least, x.least + 1, -1, 0, 1, 2, 3, x.most - 1, x.most, x.least - 1, x.most + 1, 2 * x.most, -2 * x.most, 1 << 32, -1 << 32, 1<<32 + 1, math.MaxInt, math.MinInt} {
			e := x.event(n)
			may(t, e, x.least <= n && n <= x.most && (n != 0 || e.N != 0 || e.Kind != api.EventWheel))
		}
	}
	for mods := range 256 {
		e := samples()[0]
		e.Key.Mods = uint8(mods)
		may(t, e, mods <= 7)
	}
}

// P19.1: texts of no byte, of one, of as many as may be, of one more; those of keys are UTF-8, all others whatever they are.
func TestTexts(t *testing.T) {
	set := func(e api.Event, s string) api.Event {
		if e.Kind == api.EventKey {
			e.Key.Name = s
		} else {
			e.Text = s
		}
		return e
	}
	for kind, most := range map[uint8]int{api.EventKey: api.MaxName, api.EventText: api.MaxText, api.EventDrag: api.MaxName, api.EventDrop: api.MaxName} {
		e := samples()[kind-1]
		for _, one := range []string{"a", "\x00", " ", "%", "\x7f"} {
			may(t, set(e, one), true)
			may(t, set(e, strings.Repeat(one, most-1)), true)
			may(t, set(e, strings.Repeat(one, most)), true)
			may(t, set(e, strings.Repeat(one, most+1)), false)
			may(t, set(e, strings.Repeat(one, 2*most)), false)
		}
		may(t, set(e, ""), false)
		for _, wide := range []string{"ä", "€", "😀", "\uFFFD", "\U0010FFFF"} { // bytes are counted, not runes
			may(t, set(e, strings.Repeat(wide, most/len(wide))), true)
			may(t, set(e, strings.Repeat(wide, most/len(wide)+1)), false)
			may(t, set(e, "a"+strings.Repeat(wide, most/len(wide))), most%len(wide) > 0)
		}
		for _, broken := range []string{"\xff", "a\x80", "\xc3", "\xc3a", "\xe2\x82", "\xc0\xaf", "\xed\xa0\x80", "\xf4\x90\x80\x80", "\xf0\x82\x82\xac", "ab\xf0\x9f\x98"} {
			may(t, set(e, broken), kind != api.EventKey)
			may(t, set(e, "tab"+broken+"b"), kind != api.EventKey)
		}
	}
}
