package paint

import (
	"slices"
	"testing"

	"casement/api"
	"casement/style"
)

func coloured(c api.Colour) api.Look { return api.Look{Has: 1, Colour: c} }

// P14.1: how nodes look, by their numbers, those that are not there too.
func TestLooks(t *testing.T) {
	none, reddish := api.Look{}, backed(red)
	looks(t, "no theme", pair(), nil, nil, none, none, none)
	looks(t, "no theme, states", pair(), nil, []uint8{1, 2, 255}, none, none, none)
	looks(t, "one node", button("ok"), reds(), nil, reddish)
	looks(t, "any kind", pair(), theme(api.Rule{Look: reddish}), nil, reddish, reddish, reddish)
	for what, s := range map[string]api.Spec{
		"hidden":                hidden(pair()),
		"hollow":                wrapped(pair(), half()),
		"holding hidden":        wrapped(pair(), hide(api.Holds)),
		"all hidden":            wrapped(pair(), hide(api.All)),
		"named otherwise":       wrapped(pair(), api.Wrap{Kind: api.WrapName, Text: "c"}),
		"needing too much room": with(pair(), func(n *api.Node) { n.Gap = side }),
	} {
		looks(t, what, s, reds(), nil, none, none, reddish)
	}
	// by the numbers, not as the walk goes
	looks(t, "kids in another order", tee(), theme(api.Rule{Kind: api.Box, Look: reddish}, api.Rule{State: 1, Look: backed(blue)}), []uint8{0, 0, 0, 1}, reddish, none, reddish, backed(blue), none)
	// by classes
	big := theme(api.Rule{Class: "big", Look: reddish})
	looks(t, "classes", box(0, classed(label("a"), "big"), classed(label("a"), "bigger"), classed(button("a"), "small big ")), big, nil, none, reddish, none, reddish)
	// which of the rules is stronger, style tells
	strong := theme(api.Rule{State: 1, Look: coloured(red)}, api.Rule{Kind: api.Label, Class: "a", Look: coloured(green)}, api.Rule{Kind: api.Label, Look: api.Look{Has: 9, Colour: blue, Pad: 3}})
	a := classed(label("x"), "a")
	looks(t, "several rules", box(0, a, a, label("x")), strong, []uint8{0, 1}, none, api.Look{Has: 9, Colour: red, Pad: 3}, api.Look{Has: 9, Colour: green, Pad: 3}, api.Look{Has: 9, Colour: blue, Pad: 3})
}

// P14.1: no states, fewer than nodes, as many: the others are 0.
func TestStates(t *testing.T) {
	rules := theme(api.Rule{State: api.Focused, Look: backed(red)}, api.Rule{State: api.Hovered | api.Barred, Look: coloured(blue)})
	none := api.Look{}
	looks(t, "no states", pair(), rules, nil, none, none, none)
	looks(t, "none of them", pair(), rules, []uint8{}, none, none, none)
	looks(t, "one", pair(), rules, []uint8{1}, backed(red), none, none)
	looks(t, "two", pair(), rules, []uint8{0, 1}, none, backed(red), none)
	looks(t, "as many as nodes", pair(), rules, []uint8{10, 0, 1}, coloured(blue), none, backed(red))
	looks(t, "all bits", pair(), rules, []uint8{15, 2, 8}, api.Look{Has: 3, Colour: blue, Back: red}, none, none)
	if l, e := Looks(pair(), rules, []uint8{0, 0, 0, 0}); len(l) > 0 || e != api.ErrMany {
		t.Errorf("one more than nodes: %v, %d", l, e)
	}
	if l, e := Looks(pair(), rules, make([]uint8, api.MaxNodes+1)); len(l) > 0 || e != api.ErrMany {
		t.Errorf("more than MaxNodes: %v, %d", l, e)
	}
	// spare room has no states
	if l, e := Looks(pair(), rules, []uint8{0, 1, 1, 1}[:1]); !slices.Equal(l, []api.Look{none, none, none}) || e != api.OK {
		t.Errorf("spare room: %v, %d", l, e)
	}
}

// P14.4: bits that are no state's count for nothing.
func TestBitsThatAreNoStates(t *testing.T) {
	rules := style.Usual()
	r := rect(0, 0, 20, 9)
	for state := range 256 {
		states := []uint8{uint8(state), uint8(state), uint8(state)}
		known := []uint8{uint8(state % 16), uint8(state % 16), uint8(state % 16)}
		got, e := Looks(pair(), rules, states)
		want, _ := Looks(pair(), rules, known)
		if !slices.Equal(got, want) || e != api.OK {
			t.Errorf("Looks in the state %d: %v, %d; %v", state, got, e, want)
		}
		drawn, e := Draw(pair(), r, rules, states)
		as, _ := Draw(pair(), r, rules, known)
		if !slices.Equal(drawn, as) || e != api.OK {
			t.Errorf("Draw in the state %d: %v, %d; %v", state, drawn, e, as)
		}
	}
}

// P14.3, P14.6: whoever is in another state is drawn otherwise, and nobody else.
func TestStateOfOne(t *testing.T) {
	s := box(1, label("a"), button("b"), one(api.Field, "c"), one(api.Spinner, ""), scroll(0, 0, label("d")), one(api.Canvas, ""))
	s.Nodes[7].Min = api.Size{W: 2, H: 2}
	s.Nodes[5].Min = api.Size{W: 2, H: 2}
	r := rect(0, 0, 40, 7)
	plain := map[int][]api.Stroke{}
	for node := range s.Nodes {
		plain[node], _ = Part(s, r, style.Usual(), nil, node)
	}
	for changed := range s.Nodes {
		states := make([]uint8, changed+1)
		states[changed] = api.Pressed
		for node := range s.Nodes {
			got, e := Part(s, r, style.Usual(), states, node)
			paints := len(plain[node]) > 0
			if same := slices.Equal(got, plain[node]); same == (paints && node == changed) || e != api.OK {
				t.Errorf("%d pressed: Part %d: %v, %d; %v", changed, node, got, e, plain[node])
			}
		}
	}
	draws(t, "a Button that is pressed", button("b"), rect(0, 0, 9, 5), style.Usual(), []uint8{api.Pressed}, piece(9, 5,
		fill(0, api.Colour{R: 153, G: 187, B: 255, A: 255}, 0, 0, 9, 5), frame(0, api.Colour{A: 255}, 0, 0, 9, 5),
		write(0, api.Colour{A: 255}, api.Colour{R: 153, G: 187, B: 255, A: 255}, "[ b ]", 2, 2, 5, 1))...)
}

// P14.1, P14.3: MaxRules rules, the last of which wins.
func TestMostRules(t *testing.T) {
	rules := slices.Repeat(theme(api.Rule{Look: backed(red)}), api.MaxRules-1)
	rules = append(rules, api.Rule{Look: backed(blue)})
	looks(t, "MaxRules", pair(), rules, nil, backed(blue), backed(blue), backed(blue))
	draws(t, "MaxRules", label("a"), rect(0, 0, 2, 1), rules, nil, piece(2, 1, fill(0, blue, 0, 0, 2, 1), write(0, white, blue, "a", 0, 0, 2, 1))...)
	rules = append(rules, api.Rule{})
	if l, e := Looks(pair(), rules, nil); len(l) > 0 || e != api.ErrMany {
		t.Errorf("one more: Looks: %v, %d", l, e)
	}
	if l, e := Draw(pair(), rect(0, 0, 2, 1), rules, nil); len(l) > 0 || e != api.ErrMany {
		t.Errorf("one more: Draw: %v, %d", l, e)
	}
	if l, e := Part(pair(), rect(0, 0, 2, 1), rules, nil, 0); len(l) > 0 || e != api.ErrMany {
		t.Errorf("one more: Part: %v, %d", l, e)
	}
}
