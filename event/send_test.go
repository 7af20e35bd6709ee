package event

import (
	"slices"
	"strings"
	"testing"

	"casement/api"
)

// on is a handler of moves.
func on(node int, phase uint8, tell string) api.Handler {
	return api.Handler{Node: node, Kind: api.EventMove, Phase: phase, Tell: tell}
}

// ends is a handler of moves that stops them.
func ends(node int, phase uint8, tell string) api.Handler {
	h := on(node, phase, tell)
	h.Stop = true
	return h
}

// without is handlers that do not stop anything.
func without(l []api.Handler) []api.Handler {
	l = slices.Clone(l)
	for i := range l {
		l[i].Stop = false
	}
	return l
}

func move() api.Event { return api.Event{Kind: api.EventMove} }

// sends asks what is told of a move.
func sends(t *testing.T, name string, s api.Spec, l []api.Handler, node int, tells string, want int) {
	t.Helper()
	told, stop, e := Send(s, l, move(), node)
	if !slices.Equal(told, strings.Fields(tells)) || stop != want || e != api.OK {
		t.Errorf("Send of %s to %d: %q, %d, %d; %s, %d", name, node, told, stop, e, tells, want)
	}
	sendAgrees(t, s, l, move(), node)
}

// P19.3: the chapter's examples.
func TestExamplesOfSend(t *testing.T) {
	l := []api.Handler{on(0, 1, "a"), ends(3, 2, "b"), on(0, 3, "c")}
	sends(t, "the chapter's", tee(), l, 3, "a b", 2)
	sends(t, "them without Stop", tee(), without(l), 3, "a b c", -1)
	sends(t, "them without Stop", tee(), without(l), 1, "a c", -1)
	if told, stop, e := Send(tee(), without(l), move(), 9); len(told) > 0 || stop != 0 || e != api.ErrNode {
		t.Errorf("Send to 9: %q, %d, %d", told, stop, e)
	}
}

// all is a handler of each node of T in each phase, in an order that is not that of any way.
func all() []api.Handler {
	var l []api.Handler
	for _, phase := range []uint8{3, 1, 2} {
		for node, name := range []string{"root", "one", "two", "three"} {
			l = append(l, on(node, phase, name+[]string{"down", "at", "up"}[phase-1]))
		}
	}
	return l
}

// P19.3: the stops' order, whatever that of the handlers is; at one stop theirs.
func TestStops(t *testing.T) {
	sends(t, "all", tee(), all(), 3, "rootdown twodown threeat twoup rootup", -1)
	sends(t, "all", tee(), all(), 2, "rootdown twoat rootup", -1)
	sends(t, "all", tee(), all(), 1, "rootdown oneat rootup", -1)
	sends(t, "all", tee(), all(), 0, "rootat", -1)
	back := all()
	slices.Reverse(back)
	sends(t, "all of them, turned", tee(), back, 3, "rootdown twodown threeat twoup rootup", -1)
	sends(t, "none", tee(), nil, 3, "", -1)
	sends(t, "none", tee(), []api.Handler{}, 0, "", -1)
	sends(t, "one of another stop", tee(), []api.Handler{on(1, 2, "a"), on(3, 1, "b"), on(3, 3, "c"), on(0, 2, "d"), on(2, 2, "e")}, 3, "", -1)
	sends(t, "several of one stop", tee(), []api.Handler{on(0, 1, "a"), on(2, 1, "x"), on(0, 1, "b"), on(0, 3, "y"), on(0, 1, "c")}, 2, "a b c y", -1)
	sends(t, "those that tell nothing or the same", tee(), []api.Handler{on(0, 1, "a"), on(0, 1, "a"), on(0, 3, "a")}, 1, "a a a", -1)
	if told, stop, e := Send(tee(), []api.Handler{on(0, 2, ""), on(0, 2, "a"), ends(0, 2, "")}, move(), 0); !slices.Equal(told, []string{"", "a", ""}) || stop != 0 || e != api.OK {
		t.Errorf("with empty Tells: %q, %d, %d", told, stop, e)
	}
}

// P19.3: at each stop, by the first, one in the middle, the last one of its handlers, by several, all of them tell, and none behind.
func TestStopped(t *testing.T) {
	steps := []struct {
		node  int
		phase uint8
	}{{0, 1}, {2, 1}, {3, 2}, {2, 3}, {0, 3}}
	tells := func(l []api.Handler, n int) string {
		var told []string
		for _, x := range steps[:n] {
			for _, h := range l {
				if h.Node == x.node && h.Phase == x.phase {
					told = append(told, h.Tell)
				}
			}
		}
		return strings.Join(told, " ")
	}
	var l []api.Handler
	for _, name := range []string{"first", "second", "third"} {
		for i := range steps {
			x := steps[(i+3)%len(steps)]
			l = append(l, on(x.node, x.phase, name+string(rune('0'+i))))
		}
	}
	sends(t, "none that stops", tee(), l, 3, tells(l, 5), -1)
	for stop, x := range steps {
		for mask := 1; mask < 8; mask++ {
			some := slices.Clone(l)
			nth := 0
			for i, h := range some {
				if h.Node == x.node && h.Phase == x.phase {
					some[i].Stop = mask>>nth&1 > 0
					nth++
				}
			}
			sends(t, "some that stop", tee(), some, 3, tells(l, stop+1), stop)
			for later := stop + 1; later < len(steps); later++ { // a later one that stops does not count any more
				more := append(slices.Clone(some), ends(steps[later].node, steps[later].phase, "later"))
				sends(t, "some that stop, and later ones", tee(), more, 3, tells(l, stop+1), stop)
				slices.Reverse(more)
				sendAgrees(t, tee(), more, move(), 3)
			}
		}
	}
}

// P19.3: what stops, but of another kind, another phase, another node, or a node that is not there, stops nothing.
func TestNotStopped(t *testing.T) {
	other := ends(0, 1, "other")
	other.Kind = api.EventKey
	l := []api.Handler{other, ends(1, 2, "a"), ends(3, 1, "b"), ends(0, 2, "c"), on(0, 3, "d")}
	sends(t, "others that stop", tee(), l, 3, "d", -1)
	l = []api.Handler{on(0, 1, "a"), ends(2, 1, "b"), on(3, 2, "c"), ends(2, 3, "d"), on(0, 3, "e")}
	sends(t, "those of one that is there", tee(), l, 3, "a b", 1)
	sends(t, "those of one that is not there", hidden(tee(), 2), l, 3, "a e", -1)
	sends(t, "those of one that is not there", hidden(tee(), 2), l, 2, "a e", -1)
	sends(t, "those of one that can't hold", wrapped(tee(), 2, hide(api.Holds)), l, 3, "a b", 1)
	sends(t, "those of a target that is not there", hidden(tee(), 3), without(l), 3, "a b d e", -1)
	sends(t, "those of a root that is not there", hidden(tee(), 0), l, 3, "", -1)
	sends(t, "the number of the stop, counted without what is not there", hidden(tee(), 2), []api.Handler{ends(0, 3, "a")}, 3, "a", 1)
	sends(t, "the number of the stop", tee(), []api.Handler{ends(0, 3, "a")}, 3, "a", 4)
}

// P19.3: handlers of each kind, for events of each kind.
func TestKindsOfHandlers(t *testing.T) {
	var l []api.Handler
	for kind := api.EventKey; kind <= api.EventDrop; kind++ {
		l = append(l, api.Handler{Node: 1, Kind: kind, Phase: 2, Tell: wordsOf()[kind], Stop: kind%2 > 0})
		l = append(l, api.Handler{Node: 0, Kind: kind, Phase: 3, Tell: "up"})
	}
	for _, e := range samples() {
		told, stop, err := Send(tee(), l, e, 1)
		want, wantStop := []string{wordsOf()[e.Kind], "up"}, -1
		if e.Kind%2 > 0 {
			want, wantStop = want[:1], 1
		}
		if !slices.Equal(told, want) || stop != wantStop || err != api.OK {
			t.Errorf("Send of %v: %q, %d, %d", e, told, stop, err)
		}
		sendAgrees(t, tee(), l, e, 1)
	}
}

// P19.1, P19.3: Tells of all bytes; none is too short, of MaxName bytes they may be.
func TestTells(t *testing.T) {
	long := strings.Repeat("\xff", api.MaxName)
	l := []api.Handler{on(0, 1, ""), on(0, 1, "\x00 %\n"), on(0, 1, long), on(0, 3, "\xc3")}
	told, stop, e := Send(tee(), l, move(), 2)
	if !slices.Equal(told, []string{"", "\x00 %\n", long, "\xc3"}) || stop != -1 || e != api.OK {
		t.Errorf("%q, %d, %d", told, stop, e)
	}
	if e := Handlers(tee(), l); e != api.OK {
		t.Errorf("Handlers: %d", e)
	}
	l[3].Tell = long + "a"
	if e := Handlers(tee(), l); e != api.ErrEvent {
		t.Errorf("Handlers with a longer Tell: %d", e)
	}
}

// P19.1: what is wrong with one handler, whatever else it has.
func TestHandlers(t *testing.T) {
	right := api.Handler{Node: 3, Kind: 10, Phase: 3, Stop: true, Tell: strings.Repeat("a", api.MaxName)}
	for name, x := range map[string]struct {
		change func(h *api.Handler)
		e      api.Errno
	}{
		"as it is":             {func(h *api.Handler) {}, api.OK},
		"the first node":       {func(h *api.Handler) { h.Node = 0 }, api.OK},
		"a node too great":     {func(h *api.Handler) { h.Node = 4 }, api.ErrNode},
		"a node below 0":       {func(h *api.Handler) { h.Node = -1 }, api.ErrNode},
		"a node far away":      {func(h *api.Handler) { h.Node = 1 << 60 }, api.ErrNode},
		"a node far below":     {func(h *api.Handler) { h.Node = -1 << 60 }, api.ErrNode},
		"the first kind":       {func(h *api.Handler) { h.Kind = 1 }, api.OK},
		"the kind 0":           {func(h *api.Handler) { h.Kind = 0 }, api.ErrEvent},
		"the kind 11":          {func(h *api.Handler) { h.Kind = 11 }, api.ErrEvent},
		"the kind 255":         {func(h *api.Handler) { h.Kind = 255 }, api.ErrEvent},
		"the phase 1":          {func(h *api.Handler) { h.Phase = 1 }, api.OK},
		"the phase 2":          {func(h *api.Handler) { h.Phase = 2 }, api.OK},
		"the phase 0":          {func(h *api.Handler) { h.Phase = 0 }, api.ErrEvent},
		"the phase 4":          {func(h *api.Handler) { h.Phase = 4 }, api.ErrEvent},
		"the phase 255":        {func(h *api.Handler) { h.Phase = 255 }, api.ErrEvent},
		"no Stop":              {func(h *api.Handler) { h.Stop = false }, api.OK},
		"no Tell":              {func(h *api.Handler) { h.Tell = "" }, api.OK},
		"a Tell too long":      {func(h *api.Handler) { h.Tell += "a" }, api.ErrEvent},
		"a node and a kind":    {func(h *api.Handler) { h.Node, h.Kind = 4, 0 }, api.ErrNode},
		"a node and a phase":   {func(h *api.Handler) { h.Node, h.Phase = -1, 4 }, api.ErrNode},
		"a node and its Tell":  {func(h *api.Handler) { h.Node, h.Tell = 4, h.Tell+"a" }, api.ErrNode},
		"a kind and the phase": {func(h *api.Handler) { h.Kind, h.Phase = 0, 0 }, api.ErrEvent},
	} {
		h := right
		x.change(&h)
		for _, l := range [][]api.Handler{{h}, {right, h}, {right, right, h, right}} {
			if e := Handlers(tee(), l); e != x.e {
				t.Errorf("Handlers, %s: %d, not %d", name, e, x.e)
			}
			told, stop, e := Send(tee(), l, move(), 0)
			if e != x.e || e != api.OK && (len(told) > 0 || stop != 0) {
				t.Errorf("Send, %s: %q, %d, %d, not %d", name, told, stop, e, x.e)
			}
		}
	}
	for _, s := range []api.Spec{hidden(tee(), 0), hidden(tee(), 3), wrapped(tee(), 2, half())} { // a handler's node need not be there
		if e := Handlers(s, []api.Handler{right}); e != api.OK {
			t.Errorf("Handlers of one that is not there: %d", e)
		}
	}
	if e := Handlers(tee(), nil); e != api.OK {
		t.Errorf("none: %d", e)
	}
}

// P19.1: handlers one by one: what is wrong with the first one that may not be.
func TestFirstHandler(t *testing.T) {
	node, kind, fine := on(4, 1, ""), on(0, 0, ""), on(0, 1, "")
	for _, x := range []struct {
		l []api.Handler
		e api.Errno
	}{
		{[]api.Handler{node, kind}, api.ErrNode},
		{[]api.Handler{kind, node}, api.ErrEvent},
		{[]api.Handler{fine, kind, node}, api.ErrEvent},
		{[]api.Handler{fine, node, kind, fine}, api.ErrNode},
	} {
		if e := Handlers(tee(), x.l); e != x.e {
			t.Errorf("%v: %d, not %d", x.l, e, x.e)
		}
	}
}
