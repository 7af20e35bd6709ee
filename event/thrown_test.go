package event

import (
	"math/rand"
	"slices"
	"strings"
	"testing"

	"casement/api"
	"casement/tree"
)

// agree asks for the way to a node what the model answers, and what follows.
func agree(t *testing.T, s api.Spec, node int) {
	t.Helper()
	want := modelWay(s, node)
	way, e := Way(s, node)
	if !slices.Equal(way, want) || e != api.OK {
		t.Fatalf("Way(%v, %d): %v, %d; %v", s, node, way, e, want)
	}
	goesDownAndUp(t, s, node, way)
}

// goesDownAndUp: P19.6. Each node of the way comes once down and once up, the target once; up is down turned round; and those that are there, of the path, are all.
func goesDownAndUp(t *testing.T, s api.Spec, node int, way []api.Visit) {
	t.Helper()
	path, e := tree.Path(s, node)
	if e != api.OK {
		t.Fatalf("no Path(%v, %d): %d", s, node, e)
	}
	var l [4][]int
	last := uint8(1)
	for _, visit := range way {
		if visit.Phase < last || visit.Phase > 3 {
			t.Fatalf("Way(%v, %d): %v: not down, at it, up", s, node, way)
		}
		last = visit.Phase
		l[last] = append(l[last], visit.Node)
	}
	slices.Reverse(l[3])
	if !slices.Equal(l[1], l[3]) || len(l[2]) > 1 || !slices.Equal(slices.Concat(l[1], l[2]), path[:len(l[1])+len(l[2])]) || len(l[2]) > 0 && l[2][0] != node || slices.Contains(l[1], node) {
		t.Fatalf("Way(%v, %d): %v; the path is %v", s, node, way, path)
	}
}

// sendAgrees asks what is told for what the model tells, and what follows.
func sendAgrees(t *testing.T, s api.Spec, l []api.Handler, e api.Event, node int) {
	t.Helper()
	want, wantStop := modelSend(s, l, e, node)
	told, stop, err := Send(s, l, e, node)
	if !slices.Equal(told, want) || stop != wantStop || err != api.OK {
		t.Fatalf("Send(%v, %v, %v, %d): %q, %d, %d; %q, %d", s, l, e, node, told, stop, err, want, wantStop)
	}
	if e := Handlers(s, l); e != api.OK {
		t.Fatalf("Handlers(%v, %v): %d", s, l, e)
	}
	all, never, err := Send(s, without(l), e, node) // P19.6: less stops tell more
	if len(all) < len(told) || !slices.Equal(all[:len(told)], told) || never != -1 || err != api.OK || stop < 0 && len(all) != len(told) {
		t.Fatalf("Send(%v, %v, %v, %d): %q, %d, but without Stop %q, %d, %d", s, l, e, node, told, stop, all, never, err)
	}
	for i := range l {
		more := slices.Clone(l)
		if more[i].Stop {
			continue
		}
		more[i].Stop = true
		less, sooner, err := Send(s, more, e, node)
		if len(less) > len(told) || !slices.Equal(less, told[:len(less)]) || err != api.OK || stop >= 0 && (sooner > stop || sooner < 0) {
			t.Fatalf("Send(%v, %v, %v, %d): %q, %d, but %q, %d, if %d stops, too", s, l, e, node, told, stop, less, sooner, i)
		}
	}
}

// textAgrees asks for an event's text what the model answers, and reads it again.
func textAgrees(t *testing.T, e api.Event) {
	t.Helper()
	want, wantErr := "", api.ErrEvent
	if modelMay(e) {
		want, wantErr = modelText(e), api.OK
	}
	if err := Check(e); err != wantErr {
		t.Fatalf("Check(%+v): %d; %d", brief(e), err, wantErr)
	}
	if len(want) > api.MaxText {
		want, wantErr = "", api.ErrText
	}
	got, err := Text(e)
	if got != want || err != wantErr {
		t.Fatalf("Text(%+v): %q, %d; %q, %d", brief(e), got, err, want, wantErr)
	}
	if err != api.OK {
		return
	}
	if again, at, err := Parse(got); again != e || at != 0 || err != api.OK { // P19.6
		t.Fatalf("Parse of Text(%+v), %q: %+v, %d, %d", brief(e), got, brief(again), at, err)
	}
}

// parseAgrees asks for a text what the model answers, and writes it again.
func parseAgrees(t *testing.T, s string) {
	t.Helper()
	want, wantAt, wantErr := modelParse(s)
	e, at, err := Parse(s)
	if e != want || at != wantAt || err != wantErr {
		t.Fatalf("Parse(%q): %+v, %d, %d; %+v, %d, %d", s[:min(len(s), 200)], brief(e), at, err, brief(want), wantAt, wantErr)
	}
	if err != api.OK {
		return
	}
	if text, err := Text(e); text != s || err != api.OK || Check(e) != api.OK { // P19.6
		t.Fatalf("Text of Parse(%q): %q, %d", s, text, err)
	}
}

// dealt is a node by chance.
func dealt(r *rand.Rand) api.Node {
	n := api.Node{Kind: 1 + uint8(r.Intn(10)), Text: []string{"", "a", "window"}[r.Intn(3)], Hidden: r.Intn(9) == 0, Order: r.Intn(3) - 1}
	for r.Intn(3) == 0 {
		n.Wraps = append(n.Wraps, dealtWrap(r))
	}
	return n
}

func dealtWrap(r *rand.Rand) api.Wrap {
	switch r.Intn(8) {
	case 0:
		return hide(uint16(r.Intn(64)))
	case 1:
		return shows(uint16(r.Intn(64)))
	case 2:
		return hide(api.Holds)
	case 3:
		return shows(api.Holds)
	case 4:
		return focusing(r.Intn(6) - 1)
	case 5:
		return half()
	case 6:
		return dropping()
	}
	return pad(r.Intn(3))
}

// thrown is a spec by chance, of at most so many nodes, whose kids stand in any order; each new node rather lies deep.
func thrown(r *rand.Rand, count int) api.Spec {
	s := api.Spec{Nodes: []api.Node{dealt(r)}}
	if r.Intn(8) > 0 {
		s.Nodes[0].Kind, s.Nodes[0].Hidden, s.Nodes[0].Wraps = []uint8{api.Box, api.Grid, api.Stack, api.Scroll}[r.Intn(4)], false, nil
	}
	if r.Intn(12) == 0 {
		s.Nodes[0].Hidden = true
	}
	for len(s.Nodes) < count {
		at := r.Intn(len(s.Nodes))
		n := &s.Nodes[max(at, r.Intn(len(s.Nodes)))]
		if holder := n.Kind == api.Box || n.Kind == api.Grid || n.Kind == api.Stack; !holder && (n.Kind != api.Scroll || len(n.Kids) > 0) {
			count--
			continue
		}
		n.Kids = slices.Insert(n.Kids, r.Intn(len(n.Kids)+1), len(s.Nodes))
		kid := dealt(r)
		if r.Intn(2) == 0 {
			kid.Kind = api.Box
		}
		s.Nodes = append(s.Nodes, kid)
	}
	return s
}

// thrownHandlers are handlers by chance, of few kinds.
func thrownHandlers(r *rand.Rand, s api.Spec) []api.Handler {
	var l []api.Handler
	for range r.Intn(24) {
		kinds := []uint8{api.EventMove, api.EventMove, api.EventMove, api.EventKey}
		l = append(l, api.Handler{Node: r.Intn(len(s.Nodes)), Kind: kinds[r.Intn(4)], Phase: 1 + uint8(r.Intn(3)), Stop: r.Intn(6) == 0, Tell: string(rune('a' + r.Intn(26)))})
	}
	return l
}

// P19.2, P19.3, P19.6: specs and handlers by chance, to all nodes.
func TestThrownWays(t *testing.T) {
	r := rand.New(rand.NewSource(190))
	seen := map[string]int{}
	for range 1500 {
		s := thrown(r, 1+r.Intn(16))
		if e := tree.Check(s); e != api.OK {
			t.Fatalf("%v may not be", s)
		}
		l := thrownHandlers(r, s)
		for node := range s.Nodes {
			agree(t, s, node)
			sendAgrees(t, s, l, move(), node)
			count(s, l, node, seen)
		}
		for _, node := range []int{-1, len(s.Nodes)} {
			if way, e := Way(s, node); way != nil || e != api.ErrNode {
				t.Fatalf("Way(%v, %d): %v, %d", s, node, way, e)
			}
			if told, stop, e := Send(s, l, move(), node); told != nil || stop != 0 || e != api.ErrNode {
				t.Fatalf("Send(%v, %v, .., %d): %q, %d, %d", s, l, node, told, stop, e)
			}
		}
	}
	for _, what := range []string{"the root", "nobody", "the target there", "the target not there", "one above not there", "deep", "nothing told", "several told", "several of one stop", "stopped down", "stopped at it", "stopped up", "stopped, and told less", "not stopped, and several told", "several that stop"} {
		if seen[what] < 100 {
			t.Errorf("%s: only %d", what, seen[what])
		}
	}
}

// count counts what was thrown, so that nothing is left out by chance.
func count(s api.Spec, l []api.Handler, node int, seen map[string]int) {
	way := modelWay(s, node)
	told, stop := modelSend(s, l, move(), node)
	all, _ := modelSend(s, without(l), move(), node)
	path, _ := tree.Path(s, node)
	stops := map[api.Visit]int{}
	several := 0
	for _, h := range l {
		visit := api.Visit{Node: h.Node, Phase: h.Phase}
		if h.Kind == api.EventMove && slices.Contains(way, visit) {
			stops[visit]++
			if h.Stop {
				several++
			}
		}
	}
	what := map[string]bool{
		"the root":                      node == 0,
		"nobody":                        len(way) == 0,
		"the target there":              len(way)%2 > 0,
		"the target not there":          len(way)%2 == 0 && len(way)/2 == len(path)-1,
		"one above not there":           len(way)/2 < len(path)-1,
		"deep":                          len(way) > 8,
		"nothing told":                  len(all) == 0,
		"several told":                  len(told) > 1,
		"stopped, and told less":        len(told) < len(all),
		"not stopped, and several told": stop < 0 && len(told) > 2,
		"several that stop":             several > 1,
	}
	for _, n := range stops {
		what["several of one stop"] = what["several of one stop"] || n > 1
	}
	if stop >= 0 {
		what["stopped "+[]string{"down", "at it", "up"}[way[stop].Phase-1]] = true
	}
	for name, is := range what {
		if is {
			seen[name]++
		}
	}
}

// thrownNumber is a number by chance, rather one at an end.
func thrownNumber(r *rand.Rand) int {
	ends := []int{0, 0, 1, 1, -1, 2, 3, 4, 7, 8, 16384, -16384, 16385, -16385, 32768, 32769, 1 << 20, 1<<20 + 1, 255, 256}
	switch r.Intn(3) {
	case 0:
		return r.Intn(200) - 100
	case 1:
		return r.Intn(5)
	}
	return ends[r.Intn(len(ends))]
}

// thrownText is a text by chance.
func thrownText(r *rand.Rand) string {
	pieces := []string{"a", "b", "tab", "1", "-", " ", "%", "%20", "%61", "\n", "\x00", "\xff", "\xc3\xa4", "\xc3", "€", "~", "!", "\x7f", strings.Repeat("x", 30)}
	var b strings.Builder
	for range r.Intn(5) {
		b.WriteString(pieces[r.Intn(len(pieces))])
	}
	return b.String()
}

// thrownEvent is an event by chance, which has rather what its kind has.
func thrownEvent(r *rand.Rand) api.Event {
	e := api.Event{Kind: uint8(r.Intn(12))}
	pieces := modelKindOf(e).pieces
	if r.Intn(4) == 0 {
		pieces += string("mnxytWHd"[r.Intn(8)])
	}
	for _, piece := range pieces {
		if n, _, _ := modelNumber(&e, piece); n != nil {
			*n = thrownNumber(r)
		}
		if s, _ := modelString(&e, piece); s != nil {
			*s = thrownText(r)
		}
		if piece == 'm' {
			e.Key.Mods = uint8(thrownNumber(r))
		}
	}
	return e
}

// P19.1, P19.4, P19.6: events by chance.
func TestThrownEvents(t *testing.T) {
	r := rand.New(rand.NewSource(191))
	seen := map[string]int{}
	for range 60000 {
		e := thrownEvent(r)
		textAgrees(t, e)
		word := modelKindOf(e).word
		if modelMay(e) {
			word += " that may be"
		}
		seen[word]++
	}
	for _, word := range wordsOf()[1:] {
		if seen[word] < 100 || seen[word+" that may be"] < 100 {
			t.Errorf("%s: only %d, and %d that may be", word, seen[word], seen[word+" that may be"])
		}
	}
}

// spoilt is a text with some bytes changed, taken away or put in.
func spoilt(r *rand.Rand, s string) string {
	pieces := []string{" ", "  ", "0", "-", "1", "9", "00", "%", "%2", "%20", "%61", "%0A", "a", "\n", "\x00", "\xff", "999999999", "9999999999"}
	for range r.Intn(3) {
		from := r.Intn(len(s) + 1)
		to := min(from+r.Intn(2), len(s))
		put := pieces[r.Intn(len(pieces))]
		if r.Intn(4) == 0 {
			put = ""
		}
		s = s[:from] + put + s[to:]
	}
	return s
}

// P19.4, P19.6: texts by chance, that come of an event's text or of pieces.
func TestThrownTexts(t *testing.T) {
	r := rand.New(rand.NewSource(192))
	seen := map[string]int{}
	numbers := []string{"0", "1", "-1", "3", "20", "-0", "01", "16384", "x", "1000000000", "1-"}
	for i := range 100000 {
		var s string
		if e := thrownEvent(r); modelMay(e) && i%2 > 0 {
			s = spoilt(r, modelText(e))
		} else {
			l := []string{append(wordsOf(), "jump", "keys")[r.Intn(13)]}
			for range r.Intn(5) {
				if r.Intn(4) > 0 {
					l = append(l, numbers[r.Intn(len(numbers))])
				} else {
					l = append(l, modelEscaped(thrownText(r)))
				}
			}
			s = strings.Join(l, " ")
		}
		parseAgrees(t, s)
		_, at, e := modelParse(s)
		switch {
		case e == api.OK:
			seen["well"]++
		case at == 0:
			seen["at the beginning"]++
		case at == len(s):
			seen["at the end"]++
		default:
			seen["between"]++
		}
		if is, _, e := modelParse(s); e == api.OK {
			seen[modelKindOf(is).word]++
		}
	}
	for _, what := range append(wordsOf()[1:], "well", "at the beginning", "at the end", "between") {
		if seen[what] < 100 {
			t.Errorf("%s: only %d", what, seen[what])
		}
	}
}
