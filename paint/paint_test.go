package paint

import (
	"slices"
	"strings"
	"testing"

	"casement/api"
)

const side = api.MaxSide

var (
	red   = api.Colour{R: 255, A: 255}
	green = api.Colour{G: 255, A: 255}
	blue  = api.Colour{B: 255, A: 255}
	white = api.Colour{R: 255, G: 255, B: 255, A: 255}
	none  = api.Colour{}
)

func rect(x, y, w, h int) api.Rect {
	return api.Rect{At: api.Point{X: x, Y: y}, Size: api.Size{W: w, H: h}}
}

// of is a node with those that it holds, each a spec of its own: numbered as the walk goes.
func of(n api.Node, kids ...api.Spec) api.Spec {
	s := api.Spec{Nodes: []api.Node{n}}
	for _, kid := range kids {
		first := len(s.Nodes)
		s.Nodes[0].Kids = append(s.Nodes[0].Kids, first)
		for _, n := range kid.Nodes {
			n.Kids = slices.Clone(n.Kids)
			for i := range n.Kids {
				n.Kids[i] += first
			}
			s.Nodes = append(s.Nodes, n)
		}
	}
	return s
}

func one(kind uint8, text string) api.Spec { return of(api.Node{Kind: kind, Text: text}) }
func label(text string) api.Spec           { return one(api.Label, text) }
func button(text string) api.Spec          { return one(api.Button, text) }

func box(gap int, kids ...api.Spec) api.Spec {
	return of(api.Node{Kind: api.Box, Gap: gap}, kids...)
}
func stack(kids ...api.Spec) api.Spec { return of(api.Node{Kind: api.Stack}, kids...) }
func scroll(x, y int, kids ...api.Spec) api.Spec {
	return of(api.Node{Kind: api.Scroll, Off: api.Point{X: x, Y: y}}, kids...)
}

// with is a spec whose root was changed.
func with(s api.Spec, change func(n *api.Node)) api.Spec {
	s.Nodes = slices.Clone(s.Nodes)
	change(&s.Nodes[0])
	return s
}

func wrapped(s api.Spec, l ...api.Wrap) api.Spec {
	return with(s, func(n *api.Node) { n.Wraps = l })
}
func hidden(s api.Spec) api.Spec { return with(s, func(n *api.Node) { n.Hidden = true }) }
func classed(s api.Spec, class string) api.Spec {
	return with(s, func(n *api.Node) { n.Class = class })
}

func pad(n int) api.Wrap        { return api.Wrap{Kind: api.WrapPad, Number: n} }
func hide(mask uint16) api.Wrap { return api.Wrap{Kind: api.WrapHide, Mask: mask} }
func only(mask uint16) api.Wrap { return api.Wrap{Kind: api.WrapOnly, Mask: mask} }
func half() api.Wrap            { return api.Wrap{Kind: api.WrapHalf} }
func focus() api.Wrap           { return api.Wrap{Kind: api.WrapFocus, Number: 7} }

// The strokes, as they stand in a node's piece.
func clip(node, x, y, w, h int) api.Stroke {
	return api.Stroke{Kind: api.Clip, Rect: rect(x, y, w, h), Node: node}
}
func open(node int) api.Stroke { return api.Stroke{Kind: api.Open, Node: node} }
func fill(node int, c api.Colour, x, y, w, h int) api.Stroke {
	return api.Stroke{Kind: api.Fill, Rect: rect(x, y, w, h), Colour: c, Node: node}
}
func frame(node int, c api.Colour, x, y, w, h int) api.Stroke {
	return api.Stroke{Kind: api.Frame, Rect: rect(x, y, w, h), Colour: c, Node: node}
}
func write(node int, c, back api.Colour, text string, x, y, w, h int) api.Stroke {
	return api.Stroke{Kind: api.Write, Rect: rect(x, y, w, h), Colour: c, Back: back, Text: text, Node: node}
}

// strokes is a list; piece one of a node at 0 0, in a clip of as much.
func strokes(l ...api.Stroke) []api.Stroke { return l }
func piece(w, h int, l ...api.Stroke) []api.Stroke {
	return slices.Concat(strokes(clip(0, 0, 0, w, h)), l, strokes(open(0)))
}

func backed(c api.Colour) api.Look   { return api.Look{Has: 2, Back: c} }
func theme(l ...api.Rule) []api.Rule { return l }

// pair is the chapter's B, reds its R.
func pair() api.Spec   { return box(1, label("ab"), button("ok")) }
func reds() []api.Rule { return theme(api.Rule{Kind: api.Button, Look: backed(red)}) }

func orders(t *testing.T, what string, s api.Spec, r api.Rect, want ...int) {
	t.Helper()
	if got, e := Order(s, r); !slices.Equal(got, want) || e != api.OK {
		t.Errorf("%s: Order: %v, %d; %v", what, got, e, want)
	}
}

// draws asks Draw for a list, and each Part for what has its node's number there.
func draws(t *testing.T, what string, s api.Spec, r api.Rect, rules []api.Rule, states []uint8, want ...api.Stroke) {
	t.Helper()
	if got, e := Draw(s, r, rules, states); !slices.Equal(got, want) || e != api.OK {
		t.Errorf("%s: Draw: %v, %d; %v", what, got, e, want)
	}
	for node := range s.Nodes {
		own := slices.DeleteFunc(slices.Clone(want), func(s api.Stroke) bool { return s.Node != node })
		if got, e := Part(s, r, rules, states, node); !slices.Equal(got, own) || e != api.OK {
			t.Errorf("%s: Part %d: %v, %d; %v", what, node, got, e, own)
		}
	}
}

func looks(t *testing.T, what string, s api.Spec, rules []api.Rule, states []uint8, want ...api.Look) {
	t.Helper()
	if got, e := Looks(s, rules, states); !slices.Equal(got, want) || e != api.OK {
		t.Errorf("%s: Looks: %v, %d; %v", what, got, e, want)
	}
}

// P14.1, P14.2, P14.3: the chapter's examples.
func TestExamples(t *testing.T) {
	orders(t, "B", pair(), rect(0, 0, 10, 1), 0, 1, 2)
	orders(t, "B in 2 1", pair(), rect(0, 0, 2, 1), 0, 1)
	orders(t, "B in 0 0", pair(), rect(0, 0, 0, 0))
	first := strokes(clip(1, 0, 0, 10, 1), write(1, white, none, "ab", 0, 0, 2, 1), open(1))
	plain := strokes(clip(2, 0, 0, 10, 1), write(2, white, none, "[ ok ]", 3, 0, 6, 1), open(2))
	upon := strokes(clip(2, 0, 0, 10, 1), fill(2, red, 3, 0, 6, 1), write(2, white, red, "[ ok ]", 3, 0, 6, 1), open(2))
	draws(t, "B", pair(), rect(0, 0, 10, 1), nil, nil, slices.Concat(first, plain)...)
	draws(t, "B by R", pair(), rect(0, 0, 10, 1), reds(), nil, slices.Concat(first, upon)...)
	unseen := pair()
	unseen.Nodes[2].Hidden = true
	draws(t, "B with a hidden Button", unseen, rect(0, 0, 10, 1), nil, nil, first...)
	looks(t, "B by R", pair(), reds(), nil, api.Look{}, api.Look{}, backed(red))
	if l, e := Part(pair(), rect(0, 0, 10, 1), nil, nil, 3); len(l) > 0 || e != api.ErrNode {
		t.Errorf("Part 3: %v, %d", l, e)
	}
	if l, e := Draw(pair(), rect(0, 0, 10, 1), nil, make([]uint8, 4)); len(l) > 0 || e != api.ErrMany {
		t.Errorf("Draw with four states: %v, %d", l, e)
	}
}

// P14.3: one node of each kind, at its place, without and with a look.
func TestPiecesOfKinds(t *testing.T) {
	look := api.Look{Has: 15, Colour: green, Back: blue, Border: true, Pad: 1}
	all := theme(api.Rule{Look: look})
	both := strokes(fill(0, blue, 0, 0, 9, 6), frame(0, green, 0, 0, 9, 6))
	for kind, text := range []string{0: "", api.Label: "ab", api.Button: "[ ab ]", api.Field: "ab", api.Spinner: "*", api.Stack: ""} {
		if kind == 0 {
			continue
		}
		s := one(uint8(kind), "ab")
		var plain, styled []api.Stroke
		switch uint8(kind) {
		case api.Label, api.Button, api.Field, api.Spinner:
			plain = piece(9, 6, write(0, white, none, text, 0, 0, 9, 6))
			styled = piece(9, 6, append(both[:2:2], write(0, green, blue, text, 2, 2, 5, 2))...)
		case api.Scroll, api.Canvas: // these paint, but write nothing
			styled = piece(9, 6, both...)
		}
		draws(t, "plain", s, rect(0, 0, 9, 6), nil, nil, plain...)
		draws(t, "styled", s, rect(0, 0, 9, 6), all, nil, styled...)
		orders(t, "alone", s, rect(0, 0, 9, 6), 0) // also where nothing is drawn
		draws(t, "in no room", s, rect(3, 3, 0, 6), all, nil)
		orders(t, "in no room", s, rect(3, 3, 0, 6))
	}
}

// P14.3: parts that paint, but tell no strokes; such as tell some of the three.
func TestPiecesWithoutAll(t *testing.T) {
	r := rect(0, 0, 4, 3)
	border := api.Look{Has: 4, Border: true}
	for what, x := range map[string]struct {
		s    api.Spec
		look api.Look
		want []api.Stroke
	}{
		"a Label without a text":                   {label(""), api.Look{}, nil},
		"a Label without a text, that has a back":  {label(""), backed(red), piece(4, 3, fill(0, red, 0, 0, 4, 3))},
		"a Field without a text":                   {one(api.Field, ""), api.Look{}, nil},
		"a Button without a text":                  {button(""), api.Look{}, piece(4, 3, write(0, white, none, "[  ]", 0, 0, 4, 3))},
		"a Canvas":                                 {one(api.Canvas, "ab"), api.Look{}, nil},
		"a Canvas with a colour and a pad":         {one(api.Canvas, "ab"), api.Look{Has: 9, Colour: red, Pad: 1}, nil},
		"a Canvas with a border that is none":      {one(api.Canvas, "ab"), api.Look{Has: 4}, nil},
		"a Canvas with a border":                   {one(api.Canvas, ""), border, piece(4, 3, frame(0, white, 0, 0, 4, 3))},
		"a Canvas with a back of no colour":        {one(api.Canvas, ""), backed(none), piece(4, 3, fill(0, none, 0, 0, 4, 3))},
		"a Label with a border":                    {label("ab"), border, piece(4, 3, frame(0, white, 0, 0, 4, 3), write(0, white, none, "ab", 1, 1, 2, 1))},
		"a Label whose look's pad leaves nothing":  {label("ab"), api.Look{Has: 8, Pad: 2}, nil},
		"a Label whose look's pad leaves one line": {label("ab"), api.Look{Has: 8, Pad: 1}, piece(4, 3, write(0, white, none, "ab", 1, 1, 2, 1))},
		"the greatest pad of a look":               {label("ab"), api.Look{Has: 10, Back: red, Pad: side}, piece(4, 3, fill(0, red, 0, 0, 4, 3))},
		"a Scroll without a look":                  {scroll(0, 0), api.Look{}, nil},
		"a text of two lines":                      {label("ab\ncd"), api.Look{}, piece(4, 3, write(0, white, none, "ab\ncd", 0, 0, 4, 3))},
	} {
		var rules []api.Rule
		if x.look != (api.Look{}) {
			rules = theme(api.Rule{Look: x.look})
		}
		draws(t, what, x.s, r, rules, nil, x.want...)
	}
}

// P14.3: wrappers: what they hide, what they pad, hollow parts.
func TestPiecesOfWrapped(t *testing.T) {
	r := rect(0, 0, 9, 5)
	plain := write(0, white, none, "ab", 0, 0, 9, 5)
	back := theme(api.Rule{Look: backed(red)})
	for what, x := range map[string]struct {
		wraps []api.Wrap
		want  []api.Stroke
	}{
		"nothing":                      {nil, piece(9, 5, plain)},
		"paints hidden":                {[]api.Wrap{hide(api.Paints)}, nil},
		"all hidden":                   {[]api.Wrap{hide(api.All)}, nil},
		"all hidden but paints":        {[]api.Wrap{only(api.Paints)}, piece(9, 5, plain)},
		"measures hidden":              {[]api.Wrap{hide(api.Measures)}, piece(9, 5, plain)},
		"only measures":                {[]api.Wrap{only(api.Measures)}, nil},
		"hidden, and a focus":          {[]api.Wrap{hide(api.Paints), focus()}, nil},
		"a name":                       {[]api.Wrap{{Kind: api.WrapName, Text: "c"}}, piece(9, 5, plain)},
		"a drop":                       {[]api.Wrap{{Kind: api.WrapDrop, Text: "c"}}, piece(9, 5, plain)},
		"a pad":                        {[]api.Wrap{pad(1)}, piece(9, 5, write(0, white, none, "ab", 1, 1, 7, 3))},
		"two pads":                     {[]api.Wrap{pad(1), focus(), pad(1)}, piece(9, 5, write(0, white, none, "ab", 2, 2, 5, 1))},
		"pads that leave nothing":      {[]api.Wrap{pad(2), pad(1)}, nil},
		"a pad that leaves nothing":    {[]api.Wrap{pad(3)}, nil},
		"the greatest pad":             {[]api.Wrap{pad(side / 2)}, nil},
		"a pad of 0":                   {[]api.Wrap{pad(0)}, piece(9, 5, plain)},
		"half":                         {[]api.Wrap{half()}, nil},
		"half outside":                 {[]api.Wrap{pad(1), half()}, nil},
		"half within":                  {[]api.Wrap{half(), focus()}, nil},
		"sixteen":                      {slices.Repeat([]api.Wrap{focus()}, api.MaxWraps), piece(9, 5, plain)},
		"a pad about what paints none": {[]api.Wrap{hide(api.Paints), pad(1)}, nil},
	} {
		draws(t, what, wrapped(label("ab"), x.wraps...), r, nil, nil, x.want...)
	}
	// what the look tells lies within the pads, too
	draws(t, "a pad with a back", wrapped(label("ab"), pad(1)), r, back, nil, piece(9, 5, fill(0, red, 1, 1, 7, 3), write(0, white, red, "ab", 1, 1, 7, 3))...)
	// a hollow part is not shown; one about a hollow one is, but paints nothing
	orders(t, "half", wrapped(label("ab"), half()), r)
	orders(t, "half within", wrapped(label("ab"), half(), focus()), r, 0)
	draws(t, "half within, with a back", wrapped(label("ab"), half(), focus()), r, back, nil)
	// the look goes by the node's own kind, whatever the wrapper answers for it
	looks(t, "half within", wrapped(button("ab"), half(), focus()), reds(), nil, backed(red))
}

// tee is the tree whose kids are numbered otherwise than the walk goes.
func tee() api.Spec {
	return api.Spec{Nodes: []api.Node{
		{Kind: api.Box, Kids: []int{2, 1}},
		{Kind: api.Label, Text: "b"},
		{Kind: api.Box, Kids: []int{4, 3}},
		{Kind: api.Label, Text: "c"},
		{Kind: api.Label, Text: "d"},
	}}
}

// P14.2: the order goes as the walk goes, with what is shown alone.
func TestOrder(t *testing.T) {
	r := rect(0, 0, 10, 1)
	orders(t, "a tree of one node", box(0), r, 0)
	orders(t, "kids in another order", tee(), r, 0, 2, 4, 3, 1)
	three := box(0, label("a"), box(0, label("b"), label("c")), label("d"))
	change := func(node int, change func(n *api.Node)) api.Spec {
		s := three
		s.Nodes = slices.Clone(s.Nodes)
		change(&s.Nodes[node])
		return s
	}
	orders(t, "all", three, r, 0, 1, 2, 3, 4, 5)
	orders(t, "a Box hidden", change(2, func(n *api.Node) { n.Hidden = true }), r, 0, 1, 5)
	orders(t, "the root hidden", hidden(three), r)
	orders(t, "a hollow Box", change(2, func(n *api.Node) { n.Wraps = []api.Wrap{half()} }), r, 0, 1, 5)
	orders(t, "a Box whose holding is hidden", change(2, func(n *api.Node) { n.Wraps, n.Min.W = []api.Wrap{hide(api.Holds)}, 1; n.Min.H = 1 }), r, 0, 1, 2, 5)
	orders(t, "a Box about a hollow one", change(2, func(n *api.Node) { n.Wraps = []api.Wrap{half(), focus()}; n.Min = api.Size{W: 1, H: 1} }), r, 0, 1, 2, 5)
	orders(t, "a root whose holding is hidden", wrapped(three, only(api.Measures)), r, 0)
	orders(t, "pads that leave nothing", wrapped(three, pad(1)), rect(0, 0, 10, 2), 0)
	orders(t, "pads that leave two cells", wrapped(three, pad(1)), rect(0, 0, 4, 3), 0, 1, 2, 3)
	orders(t, "in two cells", three, rect(0, 0, 2, 1), 0, 1, 2, 3)
	orders(t, "in one cell", three, rect(0, 0, 1, 1), 0, 1)
	orders(t, "in none", three, rect(0, 0, 0, 1))
	orders(t, "in no line", three, rect(0, 0, 9, 0))
	orders(t, "elsewhere", three, rect(-side, side-1, 3, 1), 0, 1, 2, 3, 4)
	orders(t, "what is scrolled away", scroll(0, 1, of(api.Node{Kind: api.Box, Column: true}, label("a"), label("b"), label("c"))), rect(0, 0, 3, 1), 0, 1, 3)
	orders(t, "a node of no size", box(0, label(""), one(api.Gap, ""), label("a")), r, 0, 3)
}

// P14.3: pieces stand in the order of drawing, not in that of the numbers.
func TestDrawGoesAsTheWalkGoes(t *testing.T) {
	draws(t, "kids in another order", tee(), rect(0, 0, 9, 1), nil, nil,
		clip(4, 0, 0, 2, 1), write(4, white, none, "d", 0, 0, 1, 1), open(4),
		clip(3, 0, 0, 2, 1), write(3, white, none, "c", 1, 0, 1, 1), open(3),
		clip(1, 0, 0, 9, 1), write(1, white, none, "b", 2, 0, 1, 1), open(1))
	// in a Stack the last one of the walk lies above
	over := stack(label("a"), label("b"))
	over.Nodes[0].Kids = []int{2, 1}
	draws(t, "a Stack", over, rect(0, 0, 9, 1), nil, nil,
		clip(2, 0, 0, 9, 1), write(2, white, none, "b", 0, 0, 9, 1), open(2),
		clip(1, 0, 0, 9, 1), write(1, white, none, "a", 0, 0, 9, 1), open(1))
	// a Scroll's own strokes come ahead of what it holds
	back := theme(api.Rule{Kind: api.Scroll, Look: backed(blue)})
	draws(t, "a Scroll", scroll(2, 0, label("abcdef")), rect(1, 1, 3, 1), back, nil,
		clip(0, 1, 1, 3, 1), fill(0, blue, 1, 1, 3, 1), open(0),
		clip(1, 1, 1, 3, 1), write(1, white, none, "abcdef", -1, 1, 6, 1), open(1))
}

// P14.3: the Clip is the place's, which is less than the node's rectangle, or more, or elsewhere.
func TestClips(t *testing.T) {
	wide := label("abcdef")
	draws(t, "within pads", wrapped(box(0, wide), pad(1)), rect(0, 0, 6, 3), nil, nil,
		clip(1, 1, 1, 4, 1), write(1, white, none, "abcdef", 1, 1, 6, 1), open(1))
	draws(t, "in a Box in a Box", box(1, label("a"), box(0, wide)), rect(0, 0, 4, 1), nil, nil,
		clip(1, 0, 0, 4, 1), write(1, white, none, "a", 0, 0, 1, 1), open(1),
		clip(3, 2, 0, 2, 1), write(3, white, none, "abcdef", 2, 0, 6, 1), open(3))
	draws(t, "there, but not shown", box(0, wide, label("g"), label("h")), rect(0, 0, 7, 1), nil, nil,
		clip(1, 0, 0, 7, 1), write(1, white, none, "abcdef", 0, 0, 6, 1), open(1),
		clip(2, 0, 0, 7, 1), write(2, white, none, "g", 6, 0, 1, 1), open(2))
	draws(t, "what is scrolled away", scroll(0, 9, of(api.Node{Kind: api.Box, Column: true}, label("a"), label("b"))), rect(0, 0, 3, 1), nil, nil,
		clip(3, 0, 0, 3, 1), write(3, white, none, "b", 0, 0, 3, 1), open(3))
	draws(t, "the longest text in a Scroll", scroll(0, 0, label(strings.Repeat("a", side))), rect(0, 0, 3, 1), nil, nil,
		clip(1, 0, 0, 3, 1), write(1, white, none, strings.Repeat("a", side), 0, 0, side, 1), open(1))
}

// P14.3, P14.6: nodes that are not there draw nothing, whatever they could.
func TestNotThere(t *testing.T) {
	r := rect(0, 0, 9, 1)
	back := theme(api.Rule{Look: backed(red)})
	two := box(0, label("a"), button("b"))
	for what, inside := range map[string]api.Spec{
		"hidden":                  hidden(two),
		"hollow":                  wrapped(two, half()),
		"holding hidden":          wrapped(two, hide(api.Holds)),
		"holding not shown":       wrapped(two, only(api.Measures|api.Paints)),
		"about a hollow one":      wrapped(two, half(), focus()),
		"hidden further up":       hidden(stack(box(0, label("a"), stack(button("b"))))),
		"each of the kids hidden": box(0, hidden(label("a")), wrapped(button("b"), half())),
	} {
		s := box(0, inside, label("z"))
		last := len(s.Nodes) - 1
		draws(t, what, s, r, back, nil, clip(last, 0, 0, 9, 1), fill(last, red, 0, 0, 1, 1), write(last, white, red, "z", 0, 0, 1, 1), open(last))
	}
	// a Scroll that can't hold paints on
	draws(t, "a Scroll that can't hold", wrapped(scroll(0, 0, label("a")), hide(api.Holds)), r, back, nil, clip(0, 0, 0, 9, 1), fill(0, red, 0, 0, 9, 1), open(0))
}
