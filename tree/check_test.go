package tree

import (
	"math"
	"math/rand"
	"reflect"
	"slices"
	"strconv"
	"strings"
	"testing"

	"casement/api"
)

// alike compares specs by reflection: no field is forgotten; lists without elements are like none.
func alike(a, b api.Spec) bool {
	plain := func(s api.Spec) []api.Node {
		l := make([]api.Node, len(s.Nodes))
		for i, n := range s.Nodes {
			n.Wraps = append([]api.Wrap{}, n.Wraps...)
			n.Kids = append([]int{}, n.Kids...)
			l[i] = n
		}
		return l
	}
	return reflect.DeepEqual(plain(a), plain(b))
}

// TestCheckCounts: how many nodes, how deep.
func TestCheckCounts(t *testing.T) {
	for _, c := range []struct {
		what string
		s    api.Spec
		want api.Errno
	}{
		{"no node", api.Spec{}, api.ErrSpec}, {"an empty list", api.Spec{Nodes: []api.Node{}}, api.ErrSpec},
		{"one node", flat(1), api.OK}, {"two nodes", flat(2), api.OK},
		{"MaxNodes - 1", flat(1023), api.OK}, {"MaxNodes", flat(1024), api.OK}, {"MaxNodes + 1", flat(1025), api.ErrSpec}, {"many nodes", flat(5000), api.ErrSpec},
		{"MaxDepth - 1", chain(63), api.OK}, {"MaxDepth", chain(64), api.OK}, {"MaxDepth + 1", chain(65), api.ErrSpec}, {"very deep", chain(1024), api.ErrSpec},
		{"the examples' T", sampleT(), api.OK},
	} {
		if e := Check(c.s); e != c.want {
			t.Errorf("Check of %s: %d, want %d", c.what, int(e), int(c.want))
		}
	}
}

// aboutNode are specs in which a node stands as the root, as a leaf, and deep below with others behind it.
func aboutNode(n api.Node) []api.Spec {
	inner := chain(5)
	inner.Nodes = append(inner.Nodes, n, api.Node{Kind: api.Gap})
	inner.Nodes[4].Kids = []int{5}
	inner.Nodes[0].Kids = []int{6, 1}
	return []api.Spec{
		{Nodes: []api.Node{n}},
		{Nodes: []api.Node{{Kind: api.Scroll, Kids: []int{1}}, n}},
		inner,
	}
}

// holdNode asks for a node in several places.
func holdNode(t *testing.T, what string, n api.Node, may bool) {
	t.Helper()
	want := api.ErrSpec
	if may {
		want = api.OK
	}
	for i, s := range aboutNode(n) {
		if e := Check(s); e != want {
			t.Errorf("Check of %s (%d): %d, want %d", what, i, int(e), int(want))
		}
	}
}

// TestCheckNumbers: each number of a node at its ends and one beyond.
func TestCheckNumbers(t *testing.T) {
	for kind := range 256 {
		holdNode(t, "the kind "+strconv.Itoa(kind), api.Node{Kind: uint8(kind)}, kind >= 1 && kind <= 10)
	}
	for _, c := range []struct {
		what      string
		low, high int
		set       func(n *api.Node, v int)
	}{
		{"Min.W", 0, 1 << 14, func(n *api.Node, v int) { n.Min.W = v }},
		{"Min.H", 0, 1 << 14, func(n *api.Node, v int) { n.Min.H = v }},
		{"Max.W", 0, 1 << 14, func(n *api.Node, v int) { n.Max.W = v }},
		{"Max.H", 0, 1 << 14, func(n *api.Node, v int) { n.Max.H = v }},
		{"Grow", 0, 1 << 14, func(n *api.Node, v int) { n.Grow = v }},
		{"Order", -1, 1 << 20, func(n *api.Node, v int) { n.Order = v }},
		{"Columns", 0, 64, func(n *api.Node, v int) { n.Columns = v }},
		{"Span", 0, 64, func(n *api.Node, v int) { n.Span = v }},
		{"Gap", 0, 1 << 14, func(n *api.Node, v int) { n.Gap = v }},
		{"Off.X", 0, 1 << 20, func(n *api.Node, v int) { n.Off.X = v }},
		{"Off.Y", 0, 1 << 20, func(n *api.Node, v int) { n.Off.Y = v }},
	} {
		for _, v := range []int{math.MinInt, c.low - 1, c.low, 0, c.high, c.high + 1, math.MaxInt} {
			for _, kind := range modelKinds() { // what a kind has no use for counts, too
				n := api.Node{Kind: kind}
				c.set(&n, v)
				holdNode(t, c.what+" "+strconv.Itoa(v), n, v >= c.low && v <= c.high)
			}
		}
	}
	for _, c := range []struct {
		least, most int
		may         bool
	}{{5, 0, true}, {5, 4, false}, {5, 5, true}, {5, 6, true}, {1 << 14, 0, true}, {1 << 14, 1 << 14, true}, {1 << 14, 1<<14 - 1, false}, {1, 0, true}, {2, 1, false}} {
		holdNode(t, "a width", api.Node{Kind: api.Gap, Min: api.Size{W: c.least}, Max: api.Size{W: c.most}}, c.may)
		holdNode(t, "a height", api.Node{Kind: api.Gap, Min: api.Size{H: c.least}, Max: api.Size{H: c.most}}, c.may)
	}
	holdNode(t, "what is not bound", api.Node{Kind: api.Label, Column: true, Hidden: true}, true)
}

// TestCheckTexts: Name, Class and Text by their bytes, and what is no UTF-8.
func TestCheckTexts(t *testing.T) {
	for _, c := range []struct {
		what string
		most int
		set  func(n *api.Node, v string)
	}{
		{"Name", 64, func(n *api.Node, v string) { n.Name = v }},
		{"Class", 64, func(n *api.Node, v string) { n.Class = v }},
		{"Text", 1 << 16, func(n *api.Node, v string) { n.Text = v }},
	} {
		for _, v := range []struct {
			text string
			may  bool
		}{
			{"", true}, {"a", true}, {"\x00\n/ ", true}, {"\ufffd", true}, {"é\u4e00\U0001f600", true},
			{strings.Repeat("a", c.most), true}, {strings.Repeat("a", c.most+1), false}, {strings.Repeat("é", c.most/2), true}, {strings.Repeat("é", c.most/2) + "a", false},
			{"\xff", false}, {"a\xc3", false}, {"\xed\xa0\x80", false}, {"\xc0\x80", false}, {strings.Repeat("a", c.most-1) + "\x80", false}, {strings.Repeat("a", c.most-1) + "é", false},
		} {
			for _, kind := range modelKinds() {
				n := api.Node{Kind: kind}
				c.set(&n, v.text)
				holdNode(t, c.what+" "+strconv.Quote(v.text[:min(9, len(v.text))]), n, v.may)
			}
		}
	}
}

// TestCheckWraps: how many, and each of them.
func TestCheckWraps(t *testing.T) {
	for _, kind := range modelKinds() {
		for _, w := range someWraps() {
			holdNode(t, "a wrapper", api.Node{Kind: kind, Wraps: []api.Wrap{w}}, true)
			holdNode(t, "MaxWraps", api.Node{Kind: kind, Wraps: slices.Repeat([]api.Wrap{w}, 16)}, true)
			holdNode(t, "MaxWraps + 1", api.Node{Kind: kind, Wraps: slices.Repeat([]api.Wrap{w}, 17)}, false)
		}
		holdNode(t, "an empty list", api.Node{Kind: kind, Wraps: []api.Wrap{}}, true)
	}
	for _, w := range []api.Wrap{
		{}, {Kind: 8}, {Kind: 255}, {Kind: api.WrapHide, Mask: 64}, {Kind: api.WrapOnly, Mask: 1 << 15}, {Kind: api.WrapPad, Mask: 1},
		{Kind: api.WrapPad, Number: -1}, {Kind: api.WrapPad, Number: 1<<14 + 1}, {Kind: api.WrapFocus, Number: -2}, {Kind: api.WrapFocus, Number: 1<<20 + 1}, {Kind: api.WrapHide, Number: 1},
		{Kind: api.WrapDrop}, {Kind: api.WrapDrop, Text: strings.Repeat("a", 65)}, {Kind: api.WrapName, Text: strings.Repeat("a", 65)}, {Kind: api.WrapName, Text: "\xff"}, {Kind: api.WrapPad, Text: "a"}, {Kind: api.WrapHalf, Text: "a"},
	} {
		holdNode(t, "a wrapper that may not be", api.Node{Kind: api.Field, Wraps: []api.Wrap{w}}, false)
		for at := range 3 {
			l := slices.Insert([]api.Wrap{{Kind: api.WrapHalf}, {Kind: api.WrapPad, Number: 3}}, at, w)
			holdNode(t, "wrappers of which one may not be", api.Node{Kind: api.Field, Wraps: l}, false)
		}
	}
	for _, w := range []api.Wrap{
		{Kind: api.WrapHide, Mask: 63}, {Kind: api.WrapOnly}, {Kind: api.WrapPad, Number: 1 << 14}, {Kind: api.WrapFocus, Number: -1}, {Kind: api.WrapFocus, Number: 1 << 20},
		{Kind: api.WrapName}, {Kind: api.WrapName, Text: strings.Repeat("a", 64)}, {Kind: api.WrapDrop, Text: strings.Repeat("a", 64)},
	} {
		holdNode(t, "a wrapper at its end", api.Node{Kind: api.Field, Wraps: []api.Wrap{w}}, true)
	}
}

// TestCheckKids: who may have which ones.
func TestCheckKids(t *testing.T) {
	box := func(kids ...int) api.Node { return api.Node{Kind: api.Box, Kids: kids} }
	gap := api.Node{Kind: api.Gap}
	for _, c := range []struct {
		what  string
		nodes []api.Node
		may   bool
	}{
		{"a kid", []api.Node{box(1), gap}, true},
		{"kids in any order", []api.Node{box(3, 1, 2), gap, gap, gap}, true},
		{"a kid with a greater number than another one's kid", []api.Node{box(3, 1), box(2), gap, gap}, true},
		{"nobody has the last one", []api.Node{box(1), gap, gap}, false},
		{"nobody has the middle one", []api.Node{box(2), gap, gap}, false},
		{"nobody has a box with a kid", []api.Node{box(), box(2), gap}, false},
		{"twice in one node", []api.Node{box(1, 1), gap}, false},
		{"twice in one node, others between", []api.Node{box(1, 2, 1), gap, gap}, false},
		{"twice, in two nodes", []api.Node{box(1, 2), box(2), gap}, false},
		{"twice, in two nodes of which the first one is not the root", []api.Node{box(1, 2), box(3), box(3), gap}, false},
		{"itself", []api.Node{box(0)}, false},
		{"itself, and another node has it", []api.Node{box(1), box(1)}, false},
		{"itself, and nobody has it", []api.Node{box(), box(1)}, false},
		{"the root", []api.Node{box(1), box(0)}, false},
		{"a lesser number", []api.Node{box(2), gap, box(1)}, false},
		{"a loop", []api.Node{box(), box(2), box(1)}, false},
		{"below 0", []api.Node{box(-1)}, false},
		{"far below 0", []api.Node{box(1, math.MinInt), gap}, false},
		{"just beyond the end", []api.Node{box(1)}, false},
		{"beyond the end", []api.Node{box(1, 2), gap}, false},
		{"far beyond the end", []api.Node{box(1, math.MaxInt), gap}, false},
		{"a fault in the last node", []api.Node{box(1), box(2), box(3)}, false},
		{"very many kids", []api.Node{box(make([]int, 1<<20)...)}, false},
		{"very many kids of one number", []api.Node{box(slices.Repeat([]int{1}, 1<<20)...), gap}, false},
	} {
		s := api.Spec{Nodes: c.nodes}
		if e := Check(s); (e == api.OK) != c.may || e != api.OK && e != api.ErrSpec || modelShape(s) != c.may {
			t.Errorf("Check of %s: %d", c.what, int(e))
		}
	}
	for _, kind := range modelKinds() {
		for kids := range 4 {
			s := flat(kids + 1)
			s.Nodes[0].Kind = kind
			if e := Check(s); (e == api.OK) != modelShape(s) {
				t.Errorf("Check of the kind %d with %d kids: %d", kind, kids, int(e))
			}
			s = api.Spec{Nodes: append([]api.Node{box(1)}, s.Nodes...)} // the same, one deeper
			for i := range s.Nodes[1].Kids {
				s.Nodes[1].Kids[i]++
			}
			if e := Check(s); (e == api.OK) != modelShape(s) {
				t.Errorf("Check of the kind %d with %d kids, in a box: %d", kind, kids, int(e))
			}
			s.Nodes[1].Wraps = []api.Wrap{{Kind: api.WrapHide, Mask: 63}} // wrappers do not change what a kind may hold
			if e := Check(s); (e == api.OK) != modelShape(s) {
				t.Errorf("Check of the kind %d with %d kids, which is wrapped: %d", kind, kids, int(e))
			}
		}
	}
}

// TestCheckAgainstModel changes one number of a spec that may be, and asks the model whether it still may.
func TestCheckAgainstModel(t *testing.T) {
	dice := rand.New(rand.NewSource(80))
	wrong := 0
	for range 4000 {
		s := thrownSpec(dice, 1+dice.Intn(12))
		if Check(s) != api.OK || !modelShape(s) {
			t.Fatalf("Check of %v", s)
		}
		n := &s.Nodes[dice.Intn(len(s.Nodes))]
		switch dice.Intn(4) {
		case 0:
			n.Kids = append(n.Kids, dice.Intn(len(s.Nodes)+2)-1)
		case 1:
			if len(n.Kids) > 0 {
				n.Kids[dice.Intn(len(n.Kids))] = dice.Intn(len(s.Nodes)+2) - 1
			}
		case 2:
			n.Kind = modelKinds()[dice.Intn(10)]
		case 3:
			slices.Reverse(n.Kids)
		}
		e := Check(s)
		if (e == api.OK) != modelShape(s) || e != api.OK && e != api.ErrSpec {
			t.Fatalf("Check of %v: %d", s, int(e))
		}
		if e != api.OK {
			wrong++
		}
	}
	if wrong < 1000 {
		t.Errorf("only %d specs were wrong", wrong)
	}
}

// TestSame: each field counts, found by reflection.
func TestSame(t *testing.T) {
	if typ := reflect.TypeFor[api.Node](); typ.NumField() != 16 {
		t.Errorf("a node has %d fields", typ.NumField())
	}
	base := func() api.Spec {
		s := sampleT()
		for i := range s.Nodes {
			s.Nodes[i].Wraps = []api.Wrap{{Kind: api.WrapPad, Number: 1}, {Kind: api.WrapName, Text: "w"}}
		}
		return s
	}
	for node := range 4 {
		for _, place := range leaves(reflect.ValueOf(base().Nodes[node])) {
			a, b := base(), base()
			v := reach(reflect.ValueOf(&b.Nodes[node]).Elem(), place)
			switch v.Kind() {
			case reflect.Int:
				v.SetInt(v.Int() + 1)
			case reflect.Uint8, reflect.Uint16:
				v.SetUint(v.Uint() + 1)
			case reflect.String:
				v.SetString(v.String() + "x")
			case reflect.Bool:
				v.SetBool(!v.Bool())
			default:
				t.Fatalf("%v of the kind %v", place, v.Kind())
			}
			if Same(a, b) || Same(b, a) || !Same(b, b) || !Same(a, base()) {
				t.Errorf("Same: the field %v of the node %d does not count", place, node)
			}
		}
		for _, change := range []func(n *api.Node){
			func(n *api.Node) { n.Kids = append(n.Kids, 0) }, func(n *api.Node) { n.Wraps = append(n.Wraps, api.Wrap{}) },
			func(n *api.Node) { n.Wraps = n.Wraps[:1] }, func(n *api.Node) { n.Wraps = nil }, func(n *api.Node) { slices.Reverse(n.Wraps) },
		} {
			a, b := base(), base()
			change(&b.Nodes[node])
			if Same(a, b) || Same(b, a) {
				t.Errorf("Same: a list of the node %d does not count", node)
			}
		}
	}
	b := base()
	slices.Reverse(b.Nodes[0].Kids)
	if Same(base(), b) {
		t.Errorf("Same: the order of Kids does not count")
	}
}

// leaves are the places of all single values in a value, as indexes one behind the other.
func leaves(v reflect.Value) [][]int {
	var l [][]int
	add := func(i int, v reflect.Value) {
		for _, more := range leaves(v) {
			l = append(l, append([]int{i}, more...))
		}
	}
	switch v.Kind() {
	case reflect.Struct:
		for i := range v.NumField() {
			add(i, v.Field(i))
		}
	case reflect.Slice:
		for i := range v.Len() {
			add(i, v.Index(i))
		}
	default:
		l = append(l, nil)
	}
	return l
}

func reach(v reflect.Value, place []int) reflect.Value {
	for _, i := range place {
		if v.Kind() == reflect.Slice {
			v = v.Index(i)
		} else {
			v = v.Field(i)
		}
	}
	return v
}

// TestSameLists: nil and empty lists are the same; specs that may not be are compared, too.
func TestSameLists(t *testing.T) {
	nodes := func(l ...api.Node) api.Spec { return api.Spec{Nodes: l} }
	for _, c := range []struct {
		a, b api.Spec
		want bool
	}{
		{api.Spec{}, api.Spec{}, true}, {api.Spec{}, nodes([]api.Node{}...), true}, {nodes(make([]api.Node, 0, 4)...), api.Spec{}, true}, {api.Spec{}, nodes(api.Node{}), false},
		{nodes(api.Node{}), nodes(api.Node{Kids: []int{}, Wraps: []api.Wrap{}}), true}, {nodes(api.Node{Kids: make([]int, 0, 3)}), nodes(api.Node{Kids: []int{}}), true},
		{nodes(api.Node{Kids: []int{}}), nodes(api.Node{Kids: []int{0}}), false}, {nodes(api.Node{Wraps: []api.Wrap{{}}}), nodes(api.Node{}), false},
		{nodes(api.Node{}, api.Node{}), nodes(api.Node{}), false}, {nodes(api.Node{Kind: 99, Name: "\xff", Gap: -1}), nodes(api.Node{Kind: 99, Name: "\xff", Gap: -1}), true},
		{nodes(api.Node{Kind: 99, Name: "\xff"}), nodes(api.Node{Kind: 99, Name: "\xfe"}), false}, {flat(3000), flat(3000), true}, {flat(3000), flat(2999), false},
		{sampleT(), sampleT(), true}, {sampleT(), alone(api.Label, "a"), false}, {nodes(sampleT().Nodes[:2]...), sampleT(), false},
	} {
		if Same(c.a, c.b) != c.want || Same(c.b, c.a) != c.want {
			t.Errorf("Same(%.200v, %.200v) is not %v", c.a, c.b, c.want)
		}
	}
	norm, _ := Norm(sampleT())
	if Same(norm, sampleT()) {
		t.Errorf("Same: numbers do not count")
	}
	l := thrownSpecs(81, 60)
	for i, a := range l {
		for j, b := range l {
			if Same(a, b) != alike(a, b) || i == j && !Same(a, b) {
				t.Fatalf("Same(%v, %v)", a, b)
			}
		}
	}
}
