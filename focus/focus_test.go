package focus

import (
	"slices"
	"testing"

	"casement/api"
)

const side = api.MaxSide

// greatest is the greatest order that may be.
const greatest = 1 << 20

func rect(x, y, w, h int) api.Rect {
	return api.Rect{At: api.Point{X: x, Y: y}, Size: api.Size{W: w, H: h}}
}

// of is a node with those that it holds, each a spec of its own: numbered as the walk goes.
func of(n api.Node, kids ...api.Spec) api.Spec {
	s := api.Spec{Nodes: []api.Node{n}}
	for _, kid := range kids {
		first := len(s.Nodes)
		s.Nodes[0].Kids = append(s.Nodes[0].Kids, first)
		for _, n := range kid.Nodes {
			n.Kids = slices.Clone(n.Kids)
			for i := range n.Kids {
				n.Kids[i] += first
			}
			s.Nodes = append(s.Nodes, n)
		}
	}
	return s
}

func one(kind uint8) api.Spec             { return of(api.Node{Kind: kind}) }
func label(name string) api.Spec          { return of(api.Node{Kind: api.Label, Name: name}) }
func button(name string) api.Spec         { return of(api.Node{Kind: api.Button, Name: name}) }
func thing(w, h int) api.Spec             { return of(api.Node{Kind: api.Gap, Min: api.Size{W: w, H: h}}) }
func box(kids ...api.Spec) api.Spec       { return of(api.Node{Kind: api.Box}, kids...) }
func columns(kids ...api.Spec) api.Spec   { return of(api.Node{Kind: api.Box, Column: true}, kids...) }
func stack(kids ...api.Spec) api.Spec     { return of(api.Node{Kind: api.Stack}, kids...) }
func grids(n int, l ...api.Spec) api.Spec { return of(api.Node{Kind: api.Grid, Columns: n}, l...) }

func scroll(x, y int, kids ...api.Spec) api.Spec {
	return of(api.Node{Kind: api.Scroll, Off: api.Point{X: x, Y: y}}, kids...)
}

// with is a spec whose root was changed.
func with(s api.Spec, change func(n *api.Node)) api.Spec {
	s.Nodes = slices.Clone(s.Nodes)
	change(&s.Nodes[0])
	return s
}

// changed is a spec of which one node was changed.
func changed(s api.Spec, node int, change func(n *api.Node)) api.Spec {
	s.Nodes = slices.Clone(s.Nodes)
	change(&s.Nodes[node])
	return s
}

func wrapped(s api.Spec, l ...api.Wrap) api.Spec {
	return with(s, func(n *api.Node) { n.Wraps = l })
}
func hidden(s api.Spec) api.Spec { return with(s, func(n *api.Node) { n.Hidden = true }) }
func ordered(s api.Spec, order int) api.Spec {
	return with(s, func(n *api.Node) { n.Order = order })
}

func pad(n int) api.Wrap        { return api.Wrap{Kind: api.WrapPad, Number: n} }
func hide(mask uint16) api.Wrap { return api.Wrap{Kind: api.WrapHide, Mask: mask} }
func only(mask uint16) api.Wrap { return api.Wrap{Kind: api.WrapOnly, Mask: mask} }
func half() api.Wrap            { return api.Wrap{Kind: api.WrapHalf} }
func focusing(n int) api.Wrap   { return api.Wrap{Kind: api.WrapFocus, Number: n} }
func called(s string) api.Wrap  { return api.Wrap{Kind: api.WrapName, Text: s} }
func dropping() api.Wrap        { return api.Wrap{Kind: api.WrapDrop, Text: "file"} }

// tee is the chapter's T.
func tee() api.Spec {
	return box(button("a"), ordered(button("b"), 2), ordered(button("c"), 1), label(""), ordered(button("d"), -1))
}

func wide() api.Rect { return rect(0, 0, 40, 1) }

// goes asks for an order, and beside it all calls for what the models answer.
func goes(t *testing.T, name string, s api.Spec, r api.Rect, want ...int) {
	t.Helper()
	if got, e := Order(s, r); !slices.Equal(got, want) || e != api.OK {
		t.Errorf("Order of %s: %v, %d; %v", name, got, e, want)
	}
	agree(t, s, r)
}

// P18.1: the chapter's examples.
func TestExamplesOfOrder(t *testing.T) {
	five := changed(tee(), 4, func(n *api.Node) { n.Wraps = []api.Wrap{focusing(5)} })
	goes(t, "T", tee(), wide(), 3, 2, 1)
	goes(t, "T with a WrapFocus", five, wide(), 3, 2, 4, 1)
	goes(t, "T with a WrapHide", changed(tee(), 2, func(n *api.Node) { n.Wraps = []api.Wrap{hide(api.Focuses)} }), wide(), 3, 1)
	goes(t, "T with both", changed(five, 2, func(n *api.Node) { n.Wraps = []api.Wrap{hide(api.Focuses)} }), wide(), 3, 4, 1)
}

// P18.1: who can be focused, of all kinds: alone, and as a kid.
func TestKinds(t *testing.T) {
	for kind := api.Label; kind <= api.Stack; kind++ {
		if kind == api.Button || kind == api.Field || kind == api.Scroll {
			goes(t, "one that can", one(kind), wide(), 0)
			goes(t, "a kid that can", box(label(""), one(kind)), wide(), 2)
		} else {
			goes(t, "one that can't", one(kind), wide())
			goes(t, "a kid that can't", box(button(""), one(kind)), wide(), 1)
			goes(t, "one that can't, of an order", ordered(one(kind), 7), wide())
		}
		goes(t, "one that is made to", wrapped(one(kind), focusing(3)), wide(), 0)
		goes(t, "one whose ability is hidden", wrapped(one(kind), hide(api.Focuses)), wide())
		goes(t, "one that can this alone", wrapped(one(kind), focusing(0), only(api.Focuses)), wide(), 0)
	}
	goes(t, "nothing but things that can't", box(label("a"), one(api.Gap), stack(one(api.Canvas))), wide())
}

// P18.1: orders above 0 ahead of those of 0, those below 0 not at all; like ones as the walk goes.
func TestOrders(t *testing.T) {
	row := func(orders ...int) api.Spec {
		var l []api.Spec
		for _, order := range orders {
			l = append(l, ordered(button(""), order))
		}
		return box(l...)
	}
	wraps := func(s api.Spec) api.Spec { // the same orders, told by wrappers
		for i := range s.Nodes[1:] {
			n := &s.Nodes[1+i]
			n.Kind, n.Wraps, n.Order = api.Label, []api.Wrap{focusing(n.Order)}, 0
		}
		return s
	}
	for name, x := range map[string]struct {
		orders []int
		want   []int
	}{
		"of 0":                  {[]int{0, 0, 0}, []int{1, 2, 3}},
		"below 0":               {[]int{-1, -1}, nil},
		"below 0 and of 0":      {[]int{-1, 0, -1, 0}, []int{2, 4}},
		"upward":                {[]int{1, 2, 3}, []int{1, 2, 3}},
		"downward":              {[]int{3, 2, 1}, []int{3, 2, 1}},
		"above 0 behind":        {[]int{0, 0, 1}, []int{3, 1, 2}},
		"above 0 between":       {[]int{0, 9, 0}, []int{2, 1, 3}},
		"alike":                 {[]int{5, 5, 5, 5}, []int{1, 2, 3, 4}},
		"alike, apart":          {[]int{2, 1, 0, 2, 1, 0}, []int{2, 5, 1, 4, 3, 6}},
		"as great as may be":    {[]int{0, greatest, greatest - 1, 0}, []int{3, 2, 1, 4}},
		"greatest and least":    {[]int{greatest, 0, -1, 1}, []int{4, 1, 2}},
		"many that are alike":   {[]int{1, 0, 1, 0, 1, 0, 1, 0, 1, 0, 1, 0, 1, 0, 1, 0}, []int{1, 3, 5, 7, 9, 11, 13, 15, 2, 4, 6, 8, 10, 12, 14, 16}},
		"of one digit and more": {[]int{10, 9, 100, 99, 0}, []int{2, 1, 4, 3, 5}},
	} {
		goes(t, name, row(x.orders...), rect(0, 0, 90, 1), x.want...)
		goes(t, name+" by wrappers", wraps(row(x.orders...)), rect(0, 0, 90, 1), x.want...)
	}
	for _, order := range []int{-2, greatest + 1} {
		for _, s := range []api.Spec{row(0, order), wraps(row(0, order))} {
			if l, e := Order(s, wide()); l != nil || e != api.ErrSpec {
				t.Errorf("Order of one of %d: %v, %d", order, l, e)
			}
		}
	}
}

// P18.1: like orders go as the walk, not by numbers: kids may stand in any order, and have a lesser number than what is ahead of their parent.
func TestWalked(t *testing.T) {
	back := with(tee(), func(n *api.Node) { n.Kids = []int{5, 4, 3, 2, 1} })
	goes(t, "T turned", back, wide(), 3, 2, 1)
	goes(t, "T turned, of like orders", turned(back, 2, 1), wide(), 3, 2, 1)
	goes(t, "T of like orders", turned(tee(), 2, 1), wide(), 2, 3, 1)
	crossed := api.Spec{Nodes: []api.Node{
		{Kind: api.Box, Kids: []int{2, 1}},
		{Kind: api.Scroll, Kids: []int{3}},
		{Kind: api.Box, Kids: []int{5, 4}},
		{Kind: api.Button, Order: 4},
		{Kind: api.Button, Order: 4},
		{Kind: api.Button},
	}}
	goes(t, "crossed numbers", crossed, wide(), 4, 3, 5, 1)
	goes(t, "crossed numbers, all alike", turned(turned(crossed, 3, 0), 4, 0), wide(), 5, 4, 1, 3)
	goes(t, "a Scroll ahead of what it holds", box(scroll(0, 0, button("")), button("")), wide(), 1, 2, 3)
	goes(t, "what a Scroll holds ahead of it", scroll(0, 0, ordered(button(""), 1)), wide(), 1, 0)
	goes(t, "deep ones ahead of the next kid", box(box(box(button("")), button("")), button("")), wide(), 3, 4, 5)
}

// P18.1: who is not there: Hidden ones, hollow ones, and all that lies in such ones or in what can't hold.
func TestThere(t *testing.T) {
	two := box(button("a"), button("b"))
	for name, x := range map[string]struct {
		s    api.Spec
		want []int
	}{
		"one that is Hidden":              {hidden(button("")), nil},
		"a kid that is Hidden":            {box(hidden(button("")), button("")), []int{2}},
		"kids of one that is Hidden":      {box(hidden(two), button("")), []int{4}},
		"kids' kids of one Hidden":        {box(hidden(stack(two)), button("")), []int{5}},
		"a hidden Scroll, and its kid":    {box(hidden(scroll(0, 0, button("")))), nil},
		"a half":                          {wrapped(button(""), half()), nil},
		"kids of a half":                  {wrapped(two, half()), nil},
		"a half in a row":                 {box(button(""), wrapped(button(""), half()), button("")), []int{1, 3}},
		"a half of what is made to":       {wrapped(label(""), focusing(1), half()), nil},
		"a half with more about it":       {wrapped(button(""), half(), pad(1)), nil},
		"a half that is made to":          {wrapped(button(""), half(), focusing(9)), []int{0}},
		"a half that is made to, hollow":  {wrapped(button(""), half(), focusing(9), half()), nil},
		"kids of a half that is there":    {wrapped(two, half(), focusing(9)), []int{0}},
		"kids of what can't hold":         {wrapped(two, hide(api.Holds)), nil},
		"kids of what can all the others": {wrapped(two, only(api.All-api.Holds)), nil},
		"kids of what can hold alone":     {wrapped(two, only(api.Holds)), []int{1, 2}},
		"kids' kids of what can't hold":   {box(wrapped(stack(two), hide(api.Holds)), button("")), []int{5}},
		"a Scroll that can't hold":        {wrapped(scroll(0, 0, button("")), hide(api.Holds)), []int{0}},
		"a Scroll that can't be focused":  {wrapped(scroll(0, 0, button("")), hide(api.Focuses)), []int{1}},
		"a Scroll of an order below 0":    {ordered(scroll(0, 0, button("")), -1), []int{1}},
		"a Box that is made to":           {wrapped(two, focusing(0)), []int{0, 1, 2}},
		"a Box that can this alone":       {wrapped(two, focusing(3), only(api.Focuses)), []int{0}},
		"a Grid's kids":                   {grids(2, button(""), hidden(button("")), ordered(button(""), 1)), []int{3, 1}},
		"hidden behind what can't hold":   {box(wrapped(box(hidden(button(""))), hide(api.Holds)), one(api.Field)), []int{3}},
	} {
		goes(t, name, x.s, wide(), x.want...)
	}
}

// P18.1: wrappers that hide the ability, add it, give another order, several of them about one another.
func TestWrapped(t *testing.T) {
	for name, x := range map[string]struct {
		kind  uint8
		order int
		wraps []api.Wrap
		turn  int // the order that comes of it
	}{
		"none":                         {api.Button, 3, nil, 3},
		"hidden":                       {api.Button, 3, []api.Wrap{hide(api.Focuses)}, -1},
		"all hidden":                   {api.Field, 3, []api.Wrap{hide(api.All)}, -1},
		"all else hidden":              {api.Field, 3, []api.Wrap{hide(api.All - api.Focuses)}, 3},
		"shown alone":                  {api.Field, 3, []api.Wrap{only(api.Focuses)}, 3},
		"others alone":                 {api.Field, 3, []api.Wrap{only(api.All - api.Focuses)}, -1},
		"nothing shown":                {api.Field, 3, []api.Wrap{only(0)}, -1},
		"added":                        {api.Label, 3, []api.Wrap{focusing(5)}, 5},
		"added as 0":                   {api.Label, 3, []api.Wrap{focusing(0)}, 0},
		"added below 0":                {api.Label, 3, []api.Wrap{focusing(-1)}, -1},
		"another order":                {api.Button, 3, []api.Wrap{focusing(5)}, 5},
		"another order of one below 0": {api.Button, -1, []api.Wrap{focusing(5)}, 5},
		"taken away by an order":       {api.Button, 3, []api.Wrap{focusing(-1)}, -1},
		"given back by an order":       {api.Button, 3, []api.Wrap{focusing(-1), focusing(2)}, 2},
		"the outermost order":          {api.Button, 3, []api.Wrap{focusing(5), focusing(7), focusing(6)}, 6},
		"the greatest order":           {api.Button, 3, []api.Wrap{focusing(greatest)}, greatest},
		"hidden and added":             {api.Button, 3, []api.Wrap{hide(api.Focuses), focusing(4)}, 4},
		"added and hidden":             {api.Button, 3, []api.Wrap{focusing(4), hide(api.Focuses)}, -1},
		"added within":                 {api.Label, 3, []api.Wrap{focusing(4), pad(0), called("x"), dropping()}, 4},
		"within others":                {api.Button, 3, []api.Wrap{pad(0), called("x"), dropping(), hide(api.Paints)}, 3},
		"hidden, added, others alone":  {api.Button, 3, []api.Wrap{hide(api.Focuses), focusing(4), only(api.Paints)}, -1},
		"hidden twice, added between":  {api.Button, 3, []api.Wrap{hide(api.Focuses), focusing(4), hide(api.Focuses), focusing(8)}, 8},
		"a half, and added":            {api.Label, 3, []api.Wrap{half(), focusing(4)}, 4},
		"added, and a half":            {api.Label, 3, []api.Wrap{focusing(4), half()}, -1},
		"added, a half, a pad":         {api.Label, 3, []api.Wrap{focusing(4), half(), pad(0)}, -1},
		"as many as may be":            {api.Label, 3, slices.Repeat([]api.Wrap{hide(api.Focuses), focusing(6)}, 8), 6},
	} {
		s := box(ordered(button(""), 4), with(wrapped(one(x.kind), x.wraps...), func(n *api.Node) { n.Order = x.order }), ordered(button(""), 5))
		var want []int
		switch {
		case x.turn < 0:
			want = []int{1, 3}
		case x.turn == 0 || x.turn > 5:
			want = []int{1, 3, 2}
		case x.turn >= 4:
			want = []int{1, 2, 3}
		default:
			want = []int{2, 1, 3}
		}
		goes(t, name, s, wide(), want...)
	}
}

// P18.1: whether they are shown or not: in rectangles of all kinds, beyond them, scrolled away, of no size.
func TestShownOrNot(t *testing.T) {
	for _, r := range []api.Rect{{}, rect(5, 5, 0, 9), rect(5, 5, 9, 0), rect(0, 0, 1, 1), rect(-side, -side, 2*side, 2*side), rect(-side, -side, 0, 0), rect(-7, -9, 3, 400)} {
		goes(t, "T", tee(), r, 3, 2, 1)
		goes(t, "a Button", button(""), r, 0)
	}
	for _, r := range []api.Rect{{}, rect(5, 5, 0, 9), rect(0, 0, 1, 1), rect(-side, -side, 2*side, 2*side), rect(-7, -9, 3, 400)} {
		goes(t, "a Scroll", scroll(greatest, greatest, tee()), r, 4, 3, 0, 2)
	}
	goes(t, "of no size", box(wrapped(one(api.Canvas), focusing(1)), button("")), wide(), 1, 2)
	goes(t, "scrolled away", scroll(30, 0, box(button(""), thing(50, 1), button(""))), wide(), 0, 2, 4)
	goes(t, "within pads that leave nothing", wrapped(stack(button("")), pad(9)), rect(0, 0, 5, 5), 1)
}

// P18.1: ErrSize, of needs and of places.
func TestTooGreat(t *testing.T) {
	far := box(thing(9, 1), button(""))
	for name, x := range map[string]struct {
		s api.Spec
		r api.Rect
		e api.Errno
	}{
		"a need that may just be":      {box(thing(side-4, 1), button("")), wide(), api.OK},
		"a need":                       {box(thing(side-3, 1), button("")), wide(), api.ErrSize},
		"a place that may just be":     {far, rect(side-13, 0, 13, 1), api.OK},
		"a place":                      {far, rect(side-12, 0, 12, 1), api.ErrSize},
		"a place in a small rectangle": {far, rect(side-1, 0, 1, 1), api.ErrSize},
		"one that is not there":        {box(hidden(thing(side, side)), thing(side-4, 1), button("")), wide(), api.OK},
		"where nobody can be focused":  {box(thing(side, 1), label(""), thing(1, 1)), wide(), api.ErrSize},
	} {
		if l, e := Order(x.s, x.r); e != x.e || e != api.OK && l != nil {
			t.Errorf("Order of %s: %v, %d", name, l, e)
		}
		agree(t, x.s, x.r)
	}
}
