package event

import (
	"slices"
	"strconv"
	"strings"
	"testing"

	"casement/api"
)

// deepest is as many nodes in one another as may be.
func deepest() api.Spec {
	s := label()
	for i := range api.MaxDepth - 1 {
		if i%2 > 0 {
			s = scrolled(s)
		} else {
			s = box(s)
		}
	}
	return s
}

// P19.2: as deep as nodes may lie, and one deeper.
func TestDeepest(t *testing.T) {
	s, last := deepest(), api.MaxDepth-1
	for _, node := range []int{0, 1, last / 2, last - 1, last} {
		way, e := Way(s, node)
		if len(way) != 2*node+1 || way[node] != (api.Visit{Node: node, Phase: 2}) || e != api.OK {
			t.Errorf("Way to %d: %v, %d", node, way, e)
		}
		agree(t, s, node)
	}
	agree(t, hidden(s, last/2), last)
	agree(t, wrapped(s, last/2, hide(api.Holds)), last)
	if way, e := Way(box(s), 1); way != nil || e != api.ErrSpec {
		t.Errorf("one deeper: %v, %d", way, e)
	}
}

// P19.2: as many nodes as may be, with wrappers and long texts, and one more.
func TestMostNodes(t *testing.T) {
	long := strings.Repeat(strings.Repeat("a", 63)+"\n", api.MaxText/64)
	s := stack(slices.Repeat([]api.Spec{of(api.Node{Kind: api.Field, Text: long, Wraps: slices.Repeat([]api.Wrap{pad(1)}, api.MaxWraps)})}, api.MaxNodes-1)...)
	for _, node := range []int{1, 500, api.MaxNodes - 1} {
		if way, e := Way(s, node); !slices.Equal(way, visits(0, 1, node, 2, 0, 3)) || e != api.OK {
			t.Errorf("Way to %d: %v, %d", node, way, e)
		}
	}
	s.Nodes = append(s.Nodes, api.Node{Kind: api.Label})
	s.Nodes[0].Kids = append(s.Nodes[0].Kids, api.MaxNodes)
	if way, e := Way(s, 1); way != nil || e != api.ErrSpec {
		t.Errorf("Way of one node more: %v, %d", way, e)
	}
	if e := Handlers(s, nil); e != api.ErrSpec {
		t.Errorf("Handlers of one node more: %d", e)
	}
}

// P19.1, P19.3: just as many handlers as may be, all of one stop or of all stops of the longest way, and one more.
func TestMostHandlers(t *testing.T) {
	s, last := deepest(), api.MaxDepth-1
	way, _ := Way(s, last)
	var one, all []api.Handler
	var tells []string
	for i := range api.MaxEvents {
		visit := way[len(way)-1-i%len(way)]
		one = append(one, on(last, 2, strconv.Itoa(i)))
		all = append(all, on(visit.Node, visit.Phase, strconv.Itoa(i)))
		tells = append(tells, strconv.Itoa(i))
	}
	if e := Handlers(s, one); e != api.OK {
		t.Errorf("Handlers: %d", e)
	}
	if told, stop, e := Send(s, one, move(), last); !slices.Equal(told, tells) || stop != -1 || e != api.OK {
		t.Errorf("Send of one stop's: %d told, %d, %d", len(told), stop, e)
	}
	one[0].Stop = true
	if told, stop, e := Send(s, one, move(), last); !slices.Equal(told, tells) || stop != last || e != api.OK {
		t.Errorf("Send of one stop's, of which the first one stops: %d told, %d, %d", len(told), stop, e)
	}
	if want, _ := modelSend(s, all, move(), last); len(want) != api.MaxEvents {
		t.Errorf("%d are told", len(want))
	} else if told, stop, e := Send(s, all, move(), last); !slices.Equal(told, want) || stop != -1 || e != api.OK {
		t.Errorf("Send of all stops': %d told, %d, %d", len(told), stop, e)
	}
	all[len(all)-1].Stop = true
	want, wantStop := modelSend(s, all, move(), last)
	if told, stop, e := Send(s, all, move(), last); !slices.Equal(told, want) || stop != wantStop || e != api.OK {
		t.Errorf("Send of all stops', of which the last one stops: %d told, %d, %d", len(told), stop, e)
	}
	more := append(all, on(0, 1, ""))
	if e := Handlers(s, more); e != api.ErrMany {
		t.Errorf("Handlers of one more: %d", e)
	}
	if told, stop, e := Send(s, more, move(), last); told != nil || stop != 0 || e != api.ErrMany {
		t.Errorf("Send of one more: %q, %d, %d", told, stop, e)
	}
}
