package event

import (
	"slices"
	"strings"
	"testing"

	"casement/api"
)

const side = api.MaxSide

// of is a node with those that it holds, each a spec of its own: numbered as the walk goes.
func of(n api.Node, kids ...api.Spec) api.Spec {
	s := api.Spec{Nodes: []api.Node{n}}
	for _, kid := range kids {
		first := len(s.Nodes)
		s.Nodes[0].Kids = append(s.Nodes[0].Kids, first)
		for _, n := range kid.Nodes {
			n.Kids = slices.Clone(n.Kids)
			for i := range n.Kids {
				n.Kids[i] += first
			}
			s.Nodes = append(s.Nodes, n)
		}
	}
	return s
}

func one(kind uint8) api.Spec            { return of(api.Node{Kind: kind}) }
func label() api.Spec                    { return one(api.Label) }
func button() api.Spec                   { return one(api.Button) }
func box(kids ...api.Spec) api.Spec      { return of(api.Node{Kind: api.Box}, kids...) }
func stack(kids ...api.Spec) api.Spec    { return of(api.Node{Kind: api.Stack}, kids...) }
func scrolled(kids ...api.Spec) api.Spec { return of(api.Node{Kind: api.Scroll}, kids...) }
func grid(kids ...api.Spec) api.Spec     { return of(api.Node{Kind: api.Grid}, kids...) }

// changed is a spec of which one node was changed.
func changed(s api.Spec, node int, change func(n *api.Node)) api.Spec {
	s.Nodes = slices.Clone(s.Nodes)
	change(&s.Nodes[node])
	return s
}

// hidden is a spec of which these nodes are Hidden.
func hidden(s api.Spec, nodes ...int) api.Spec {
	for _, node := range nodes {
		s = changed(s, node, func(n *api.Node) { n.Hidden = true })
	}
	return s
}

// wrapped is a spec with wrappers about one node.
func wrapped(s api.Spec, node int, l ...api.Wrap) api.Spec {
	return changed(s, node, func(n *api.Node) { n.Wraps = l })
}

func pad(n int) api.Wrap         { return api.Wrap{Kind: api.WrapPad, Number: n} }
func hide(mask uint16) api.Wrap  { return api.Wrap{Kind: api.WrapHide, Mask: mask} }
func shows(mask uint16) api.Wrap { return api.Wrap{Kind: api.WrapOnly, Mask: mask} }
func half() api.Wrap             { return api.Wrap{Kind: api.WrapHalf} }
func focusing(n int) api.Wrap    { return api.Wrap{Kind: api.WrapFocus, Number: n} }
func called(s string) api.Wrap   { return api.Wrap{Kind: api.WrapName, Text: s} }
func dropping() api.Wrap         { return api.Wrap{Kind: api.WrapDrop, Text: "file"} }

// tee is the chapter's T.
func tee() api.Spec {
	return api.Spec{Nodes: []api.Node{{Kind: api.Box, Kids: []int{2, 1}}, {Kind: api.Label}, {Kind: api.Box, Kids: []int{3}}, {Kind: api.Label}}}
}

// nest is a row of four nodes in one another.
func nest() api.Spec { return box(stack(scrolled(button()))) }

// visits are a way's stops, each told as a node and a phase.
func visits(l ...int) []api.Visit {
	var way []api.Visit
	for i := 0; i < len(l); i += 2 {
		way = append(way, api.Visit{Node: l[i], Phase: uint8(l[i+1])})
	}
	return way
}

// goes asks for a way.
func goes(t *testing.T, name string, s api.Spec, node int, want ...int) {
	t.Helper()
	if way, e := Way(s, node); !slices.Equal(way, visits(want...)) || e != api.OK {
		t.Errorf("Way of %s to %d: %v, %d; %v", name, node, way, e, want)
	}
	agree(t, s, node)
}

// P19.2: the chapter's examples.
func TestExamplesOfWay(t *testing.T) {
	goes(t, "T", tee(), 3, 0, 1, 2, 1, 3, 2, 2, 3, 0, 3)
	goes(t, "T", tee(), 0, 0, 2)
	goes(t, "T with 2 Hidden", hidden(tee(), 2), 3, 0, 1, 0, 3)
}

// P19.2: the root, those that lie in it, as deep as may be; kids with a lesser number than another one's parent has.
func TestWays(t *testing.T) {
	goes(t, "T", tee(), 1, 0, 1, 1, 2, 0, 3)
	goes(t, "T", tee(), 2, 0, 1, 2, 2, 0, 3)
	for kind := api.Label; kind <= api.Stack; kind++ {
		goes(t, "one alone", one(kind), 0, 0, 2)
		goes(t, "one in a Box", box(label(), one(kind)), 2, 0, 1, 2, 2, 0, 3)
	}
	goes(t, "four in one another", nest(), 0, 0, 2)
	goes(t, "four in one another", nest(), 1, 0, 1, 1, 2, 0, 3)
	goes(t, "four in one another", nest(), 2, 0, 1, 1, 1, 2, 2, 1, 3, 0, 3)
	goes(t, "four in one another", nest(), 3, 0, 1, 1, 1, 2, 1, 3, 2, 2, 3, 1, 3, 0, 3)
	goes(t, "a Grid", grid(label(), grid(label())), 3, 0, 1, 2, 1, 3, 2, 2, 3, 0, 3)
	crossed := api.Spec{Nodes: []api.Node{
		{Kind: api.Box, Kids: []int{4, 1}},
		{Kind: api.Box, Kids: []int{5, 2}},
		{Kind: api.Box, Kids: []int{3}},
		{Kind: api.Label},
		{Kind: api.Stack, Kids: []int{6}},
		{Kind: api.Label},
		{Kind: api.Label},
	}}
	goes(t, "crossed numbers", crossed, 3, 0, 1, 1, 1, 2, 1, 3, 2, 2, 3, 1, 3, 0, 3)
	goes(t, "crossed numbers", crossed, 5, 0, 1, 1, 1, 5, 2, 1, 3, 0, 3)
	goes(t, "crossed numbers", crossed, 6, 0, 1, 4, 1, 6, 2, 4, 3, 0, 3)
}

// P19.2: who is not there: Hidden ones, hollow ones, those in what is not there, and those in what can't hold.
func TestThere(t *testing.T) {
	goes(t, "T with the node Hidden", hidden(tee(), 3), 3, 0, 1, 2, 1, 2, 3, 0, 3)
	goes(t, "T with 2 Hidden", hidden(tee(), 2), 2, 0, 1, 0, 3)
	goes(t, "T with 2 Hidden", hidden(tee(), 2), 1, 0, 1, 1, 2, 0, 3)
	goes(t, "T with 2 and 3 Hidden", hidden(tee(), 2, 3), 3, 0, 1, 0, 3)
	goes(t, "T with the root Hidden", hidden(tee(), 0), 3)
	goes(t, "T with the root Hidden", hidden(tee(), 0), 0)
	goes(t, "T with another one Hidden", hidden(tee(), 1), 3, 0, 1, 2, 1, 3, 2, 2, 3, 0, 3)
	goes(t, "four with the second one Hidden", hidden(nest(), 1), 3, 0, 1, 0, 3)
	goes(t, "four with the third one Hidden", hidden(nest(), 2), 3, 0, 1, 1, 1, 1, 3, 0, 3)

	in2 := []int{0, 1, 2, 1, 3, 2, 2, 3, 0, 3}   // all are there
	not3 := []int{0, 1, 2, 1, 2, 3, 0, 3}        // 2 is there and can't hold
	not2 := []int{0, 1, 0, 3}                    // 2 is not there
	fours := []int{0, 1, 1, 1, 2, 2, 1, 3, 0, 3} // in four of one another, the way to 2
	none := []int{0, 1, 1, 1, 1, 3, 0, 3}        // the same, if it is not there
	for name, x := range map[string]struct {
		wraps     []api.Wrap
		kid, hold []int // the way to T's 3 with these about 2, and that to the nest's 2
	}{
		"a half":                        {[]api.Wrap{half()}, not2, none},
		"halves":                        {[]api.Wrap{half(), half()}, not2, none},
		"a half about others":           {[]api.Wrap{pad(1), focusing(2), half()}, not2, none},
		"a half with a pad about it":    {[]api.Wrap{half(), pad(1)}, not3, fours},
		"a half with a name about it":   {[]api.Wrap{half(), called("x")}, not3, fours},
		"a half that can be focused":    {[]api.Wrap{half(), focusing(1)}, not3, fours},
		"a half that accepts":           {[]api.Wrap{half(), dropping()}, not3, fours},
		"a half that hides":             {[]api.Wrap{half(), hide(api.All)}, not3, fours},
		"a half that shows all":         {[]api.Wrap{half(), shows(api.All)}, not3, fours},
		"a half in a half":              {[]api.Wrap{half(), pad(1), half()}, not2, none},
		"what hides that it can hold":   {[]api.Wrap{hide(api.Holds)}, not3, fours},
		"what hides all":                {[]api.Wrap{hide(api.All)}, not3, fours},
		"what hides all else":           {[]api.Wrap{hide(api.All - api.Holds)}, in2, fours},
		"what hides nothing":            {[]api.Wrap{hide(0)}, in2, fours},
		"what shows that it can hold":   {[]api.Wrap{shows(api.Holds)}, in2, fours},
		"what shows all else":           {[]api.Wrap{shows(api.All - api.Holds)}, not3, fours},
		"what shows nothing":            {[]api.Wrap{shows(0)}, not3, fours},
		"what shows all":                {[]api.Wrap{shows(api.All)}, in2, fours},
		"a pad, a name, a focus, drops": {[]api.Wrap{pad(9), called("x"), focusing(-1), dropping()}, in2, fours},
		"what hides within others":      {[]api.Wrap{hide(api.Holds), pad(9), called("x"), focusing(1), dropping()}, not3, fours},
		"what hides, and shows":         {[]api.Wrap{hide(api.Holds), shows(api.Holds)}, not3, fours},
		"as many as may be":             {slices.Repeat([]api.Wrap{pad(1)}, api.MaxWraps), in2, fours},
		"as many as may be, and a half": {append(slices.Repeat([]api.Wrap{pad(1)}, api.MaxWraps-1), half()), not2, none},
	} {
		goes(t, "T with 2 in "+name, wrapped(tee(), 2, x.wraps...), 3, x.kid...)
		goes(t, "T with 1 in "+name, wrapped(tee(), 1, x.wraps...), 3, in2...)
		goes(t, "four with the third in "+name, wrapped(nest(), 2, x.wraps...), 2, x.hold...)
	}
	goes(t, "a root that is a half", wrapped(tee(), 0, half()), 0)
	goes(t, "a root that is a half", wrapped(tee(), 0, half()), 3)
	goes(t, "a root that can't hold", wrapped(tee(), 0, hide(api.Holds)), 0, 0, 2)
	goes(t, "a root that can't hold", wrapped(tee(), 0, hide(api.Holds)), 3, 0, 1, 0, 3)
	goes(t, "a Hidden one that can't hold", hidden(wrapped(tee(), 2, hide(api.Holds)), 2), 3, 0, 1, 0, 3)
	for _, s := range []api.Spec{box(label()), grid(label()), stack(label()), scrolled(label())} {
		goes(t, "one that holds", s, 1, 0, 1, 1, 2, 0, 3)
		goes(t, "one that can't hold", wrapped(s, 0, hide(api.Holds)), 1, 0, 1, 0, 3)
	}
}

// P19.2: what counts is that a node is there, not whether it shows, and nothing of its own but what it can.
func TestShownOrNot(t *testing.T) {
	goes(t, "one of no size", box(one(api.Gap), one(api.Canvas)), 2, 0, 1, 2, 2, 0, 3)
	far := changed(scrolled(box(button())), 0, func(n *api.Node) { n.Off = api.Point{X: 1 << 20, Y: 1 << 20} })
	goes(t, "one that was scrolled away", far, 2, 0, 1, 1, 1, 2, 2, 1, 3, 0, 3)
	great := changed(box(label(), label()), 1, func(n *api.Node) { n.Min = api.Size{W: side, H: side} })
	great = changed(great, 2, func(n *api.Node) { n.Min = api.Size{W: side, H: side} })
	goes(t, "one that needs too much room", great, 2, 0, 1, 2, 2, 0, 3)
	goes(t, "one with a text", changed(box(label()), 1, func(n *api.Node) { n.Text = strings.Repeat("a\n", 30000) }), 1, 0, 1, 1, 2, 0, 3)
	goes(t, "one that can't be focused", changed(box(button()), 1, func(n *api.Node) { n.Order = -1 }), 1, 0, 1, 1, 2, 0, 3)
}
