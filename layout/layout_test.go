package layout

import (
	"slices"
	"strings"
	"testing"

	"casement/api"
)

const side = api.MaxSide

func rect(x, y, w, h int) api.Rect {
	return api.Rect{At: api.Point{X: x, Y: y}, Size: api.Size{W: w, H: h}}
}

// rects and sizes are told as rows of numbers.
func rects(l ...int) []api.Rect {
	var all []api.Rect
	for four := range slices.Chunk(l, 4) {
		all = append(all, rect(four[0], four[1], four[2], four[3]))
	}
	return all
}

func sizes(l ...int) []api.Size {
	var all []api.Size
	for two := range slices.Chunk(l, 2) {
		all = append(all, api.Size{W: two[0], H: two[1]})
	}
	return all
}

// of is a node with those that it holds, each a spec of its own: numbered as the walk goes.
func of(n api.Node, kids ...api.Spec) api.Spec {
	s := api.Spec{Nodes: []api.Node{n}}
	for _, kid := range kids {
		first := len(s.Nodes)
		s.Nodes[0].Kids = append(s.Nodes[0].Kids, first)
		for _, n := range kid.Nodes {
			n.Kids = slices.Clone(n.Kids)
			for i := range n.Kids {
				n.Kids[i] += first
			}
			s.Nodes = append(s.Nodes, n)
		}
	}
	return s
}

func label(text string) api.Spec { return of(api.Node{Kind: api.Label, Text: text}) }

// thing is something of a least size.
func thing(w, h int) api.Spec { return of(api.Node{Kind: api.Gap, Min: api.Size{W: w, H: h}}) }

// with is a spec whose root was changed.
func with(s api.Spec, change func(n *api.Node)) api.Spec {
	s.Nodes = slices.Clone(s.Nodes)
	change(&s.Nodes[0])
	return s
}

func wrapped(s api.Spec, l ...api.Wrap) api.Spec {
	return with(s, func(n *api.Node) { n.Wraps = l })
}

func hidden(s api.Spec) api.Spec {
	return with(s, func(n *api.Node) { n.Hidden = true })
}

func column(s api.Spec) api.Spec {
	return with(s, func(n *api.Node) { n.Column = true })
}

func atLeast(s api.Spec, w, h int) api.Spec {
	return with(s, func(n *api.Node) { n.Min = api.Size{W: w, H: h} })
}

func atMost(s api.Spec, w, h int) api.Spec {
	return with(s, func(n *api.Node) { n.Max = api.Size{W: w, H: h} })
}

func grows(s api.Spec, by int) api.Spec {
	return with(s, func(n *api.Node) { n.Grow = by })
}

func spans(s api.Spec, by int) api.Spec {
	return with(s, func(n *api.Node) { n.Span = by })
}

func box(gap int, kids ...api.Spec) api.Spec {
	return of(api.Node{Kind: api.Box, Gap: gap}, kids...)
}

func grids(columns, gap int, kids ...api.Spec) api.Spec {
	return of(api.Node{Kind: api.Grid, Columns: columns, Gap: gap}, kids...)
}

func stack(kids ...api.Spec) api.Spec { return of(api.Node{Kind: api.Stack}, kids...) }

func scroll(x, y int, kids ...api.Spec) api.Spec {
	return of(api.Node{Kind: api.Scroll, Off: api.Point{X: x, Y: y}}, kids...)
}

// pad, hide, only, half are wrappers.
func pad(n int) api.Wrap        { return api.Wrap{Kind: api.WrapPad, Number: n} }
func hide(mask uint16) api.Wrap { return api.Wrap{Kind: api.WrapHide, Mask: mask} }
func only(mask uint16) api.Wrap { return api.Wrap{Kind: api.WrapOnly, Mask: mask} }
func half() api.Wrap            { return api.Wrap{Kind: api.WrapHalf} }
func focus() api.Wrap           { return api.Wrap{Kind: api.WrapFocus, Number: 7} }

// two is the chapter's B, a Box of two Labels.
func two() api.Spec { return box(1, label("ab"), label("c")) }

// P12.1
func TestNeed(t *testing.T) {
	long := strings.Repeat("a", side)
	for name, x := range map[string]struct {
		s    api.Spec
		want []api.Size
	}{
		"the chapter's B":               {two(), sizes(4, 1, 2, 1, 1, 1)},
		"the chapter's V":               {column(two()), sizes(2, 3, 2, 1, 1, 1)},
		"a Box that is Hidden":          {hidden(box(0, label("ab"))), sizes(0, 0, 0, 0)},
		"a Box that no longer can hold": {wrapped(box(0, label("ab")), hide(api.Holds)), sizes(0, 0, 0, 0)},

		// one node, of each kind
		"a Label":                           {label("ab\ncde"), sizes(3, 2)},
		"a Label without a text":            {label(""), sizes(0, 1)},
		"a Label of wide runes":             {label("\u4e00\u4e01"), sizes(4, 1)},
		"a Button":                          {of(api.Node{Kind: api.Button, Text: "ok"}), sizes(6, 1)},
		"a Field":                           {of(api.Node{Kind: api.Field, Text: "ok"}), sizes(3, 1)},
		"a Spinner":                         {of(api.Node{Kind: api.Spinner, Text: "window"}), sizes(1, 1)},
		"a Box":                             {box(3), sizes(0, 0)},
		"a Grid":                            {grids(3, 3), sizes(0, 0)},
		"a Stack":                           {stack(), sizes(0, 0)},
		"a Scroll":                          {scroll(2, 2), sizes(0, 0)},
		"a Canvas":                          {of(api.Node{Kind: api.Canvas, Text: "ab"}), sizes(0, 0)},
		"a Canvas of a Min":                 {of(api.Node{Kind: api.Canvas, Min: api.Size{W: 3, H: 2}}), sizes(3, 2)},
		"a Gap":                             {thing(3, 4), sizes(3, 4)},
		"a Label that is as wide as may be": {label(long), sizes(side, 1)},
		"a Label that is as high as may be": {label(strings.Repeat("\n", side-1)), sizes(0, side)},

		// who is not there
		"a hidden Label":                      {hidden(label("ab")), sizes(0, 0)},
		"a hidden Label that is too wide":     {hidden(label(long + "a")), sizes(0, 0)},
		"a kid that is Hidden":                {box(1, hidden(label("ab")), label("c")), sizes(1, 1, 0, 0, 1, 1)},
		"kids that are Hidden":                {box(1, hidden(label("ab")), hidden(label("c"))), sizes(0, 0, 0, 0, 0, 0)},
		"kids of one that is Hidden":          {box(1, hidden(two()), label("c")), sizes(1, 1, 0, 0, 0, 0, 0, 0, 1, 1)},
		"kids' kids of one that is Hidden":    {hidden(stack(two())), sizes(0, 0, 0, 0, 0, 0, 0, 0)},
		"a kid that is Hidden and too wide":   {box(1, hidden(label(long+"a")), label("c")), sizes(1, 1, 0, 0, 1, 1)},
		"a kid that is hollow":                {box(1, label("ab"), wrapped(label("cde"), half())), sizes(2, 1, 2, 1, 0, 0)},
		"a hollow Box":                        {wrapped(two(), half()), sizes(0, 0, 0, 0, 0, 0)},
		"a hollow Box of a Min":               {atLeast(wrapped(two(), half()), 5, 5), sizes(0, 0, 0, 0, 0, 0)},
		"what is about a hollow one":          {atLeast(wrapped(two(), half(), focus()), 5, 6), sizes(5, 6, 0, 0, 0, 0)},
		"what is about a hollow Label":        {box(1, wrapped(label("ab"), half(), pad(3)), label("c")), sizes(2, 1, 0, 0, 1, 1)},
		"hollow again":                        {wrapped(two(), half(), focus(), half()), sizes(0, 0, 0, 0, 0, 0)},
		"a Box in a Box that can't hold":      {box(0, wrapped(box(0, two()), only(api.Measures))), sizes(0, 0, 0, 0, 0, 0, 0, 0, 0, 0)},
		"a Grid that can't hold":              {wrapped(grids(2, 1, label("ab")), hide(api.Holds)), sizes(0, 0, 0, 0)},
		"a Stack that can't hold":             {wrapped(stack(label("ab")), hide(api.Holds)), sizes(0, 0, 0, 0)},
		"a Scroll that can't hold":            {wrapped(scroll(0, 0, label("ab")), hide(api.Holds)), sizes(0, 0, 0, 0)},
		"a Scroll that can't scroll":          {wrapped(scroll(0, 0, label("ab")), hide(api.Scrolls)), sizes(0, 0, 2, 1)},
		"a Box that can hold alone":           {wrapped(two(), only(api.Holds)), sizes(4, 1, 2, 1, 1, 1)},
		"a Label that can't measure":          {wrapped(label("ab"), hide(api.Measures)), sizes(0, 0)},
		"a Label of a Min that can't measure": {atLeast(wrapped(label("ab"), hide(api.Measures)), 1, 3), sizes(1, 3)},
		"a kid that can't measure":            {box(1, wrapped(label("ab"), hide(api.Measures)), label("c")), sizes(2, 1, 0, 0, 1, 1)},

		// Min and Max
		"Min above what is measured":           {atLeast(label("ab"), 3, 2), sizes(3, 2)},
		"Min below what is measured":           {atLeast(label("ab\nc"), 1, 1), sizes(2, 2)},
		"Min at what is measured":              {atLeast(label("ab\nc"), 2, 2), sizes(2, 2)},
		"Min above in one direction":           {atLeast(label("ab"), 1, 2), sizes(2, 2)},
		"Min above what kids need":             {atLeast(two(), 9, 9), sizes(9, 9, 2, 1, 1, 1)},
		"Min below what kids need":             {atLeast(two(), 3, 1), sizes(4, 1, 2, 1, 1, 1)},
		"Min as great as may be":               {thing(side, side), sizes(side, side)},
		"Max below what is measured":           {atMost(label("window"), 4, 0), sizes(4, 1)},
		"Max at what is measured":              {atMost(label("window"), 6, 1), sizes(6, 1)},
		"Max above what is measured":           {atMost(label("window"), 7, 3), sizes(6, 1)},
		"Max below what kids need":             {atMost(two(), 2, 0), sizes(4, 1, 2, 1, 1, 1)},
		"Max of one that is too wide without":  {atMost(label(long+"a"), side, 0), sizes(side, 1)},
		"Max of one that is too high without":  {atMost(label(strings.Repeat("\n", side)), 0, 9), sizes(0, 9)},
		"Max counts ahead of pads":             {wrapped(atMost(label("window"), 4, 0), pad(2)), sizes(8, 5)},
		"a pad keeps what it measures within":  {wrapped(label(long+"aaa"), pad(1)), sizes(side, 3)},
		"a pad of 0 keeps it within, too":      {wrapped(label(long+"a"), pad(0)), sizes(side, 1)},
		"Min of one with a pad":                {wrapped(atLeast(label("ab"), 9, 1), pad(2)), sizes(13, 5)},
		"Min of one with a pad, not measuring": {wrapped(atLeast(label("ab"), 9, 1), pad(2), hide(api.Measures)), sizes(9, 1)},

		// pads
		"a Box with a pad":                                {wrapped(two(), pad(1)), sizes(6, 3, 2, 1, 1, 1)},
		"a Box with pads":                                 {wrapped(two(), pad(1), focus(), pad(0), pad(2)), sizes(10, 7, 2, 1, 1, 1)},
		"a Box with pads, no kids":                        {wrapped(box(3), pad(1), pad(2)), sizes(6, 6)},
		"a Box with pads, kids hidden":                    {wrapped(box(3, hidden(label("ab"))), pad(1), hide(api.Measures)), sizes(0, 0, 0, 0)},
		"pads that can't measure":                         {wrapped(two(), pad(1), hide(api.Measures)), sizes(6, 3, 2, 1, 1, 1)},
		"a pad as great as may be":                        {wrapped(box(0), pad(side)), sizes(side, side)},
		"a Scroll with a pad":                             {wrapped(scroll(0, 0, label("ab")), pad(3)), sizes(6, 6, 2, 1)},
		"a Scroll with a pad that can't measure":          {wrapped(scroll(0, 0, label("ab")), pad(3), hide(api.Measures)), sizes(6, 6, 2, 1)},
		"a Scroll with a pad that can't measure, no kids": {wrapped(scroll(0, 0), pad(3), hide(api.Measures)), sizes(0, 0)},
		"a Stack with a pad":                              {wrapped(stack(label("ab")), pad(3)), sizes(8, 7, 2, 1)},
		"a Grid with a pad":                               {wrapped(grids(2, 1, label("ab"), label("c")), pad(3)), sizes(10, 7, 2, 1, 1, 1)},
		"pads of several nodes":                           {wrapped(box(0, wrapped(label("ab"), pad(1)), wrapped(box(0, label("c")), pad(2))), pad(3)), sizes(15, 11, 4, 3, 5, 5, 1, 1)},

		// kids together
		"a gap beside one kid":       {box(5, label("ab")), sizes(2, 1, 2, 1)},
		"a gap among none":           {box(side), sizes(0, 0)},
		"gaps between three":         {box(5, label("a"), label("b"), label("c")), sizes(13, 1, 1, 1, 1, 1, 1, 1)},
		"gaps in a column":           {column(box(5, label("a"), label("bcd"), label("c"))), sizes(3, 13, 1, 1, 3, 1, 1, 1)},
		"no gap for one not there":   {box(5, label("a"), hidden(label("b")), label("c")), sizes(7, 1, 1, 1, 0, 0, 1, 1)},
		"the greatest height":        {box(0, thing(1, 2), thing(2, 5), thing(3, 4)), sizes(6, 5, 1, 2, 2, 5, 3, 4)},
		"the greatest width":         {column(box(0, thing(1, 2), thing(4, 5), thing(3, 4))), sizes(4, 11, 1, 2, 4, 5, 3, 4)},
		"a Stack of three":           {stack(thing(1, 5), thing(4, 2), thing(3, 3)), sizes(4, 5, 1, 5, 4, 2, 3, 3)},
		"a Stack has no Gap":         {with(stack(thing(1, 5), thing(4, 2)), func(n *api.Node) { n.Gap = 9 }), sizes(4, 5, 1, 5, 4, 2)},
		"a Scroll needs its Min":     {atLeast(scroll(0, 0, thing(50, 60)), 3, 2), sizes(3, 2, 50, 60)},
		"a Grid of three":            {grids(2, 1, label("a"), label("bcd"), label("e")), sizes(5, 3, 1, 1, 3, 1, 1, 1)},
		"a Grid of spans":            {grids(2, 1, thing(3, 1), thing(5, 2), spans(thing(11, 1), 2)), sizes(11, 4, 3, 1, 5, 2, 11, 1)},
		"a Grid of a span that fits": {grids(2, 1, thing(3, 1), thing(5, 2), spans(thing(9, 1), 2)), sizes(9, 4, 3, 1, 5, 2, 9, 1)},
		"a Grid without columns":     {grids(0, 1, label("a"), label("bcd")), sizes(3, 3, 1, 1, 3, 1)},
		"a Grid with one not there":  {grids(2, 1, label("a"), hidden(label("bcd")), label("ef")), sizes(4, 1, 1, 1, 0, 0, 2, 1)},
		"Columns of a Box":           {with(two(), func(n *api.Node) { n.Columns = 1 }), sizes(4, 1, 2, 1, 1, 1)},
		"Column of a Grid":           {column(grids(2, 1, label("ab"), label("c"))), sizes(4, 1, 2, 1, 1, 1)},
		"Column of a Stack":          {column(stack(thing(1, 5), thing(4, 2))), sizes(4, 5, 1, 5, 4, 2)},
		"several in one another":     {column(box(1, two(), stack(label("window"), column(two())))), sizes(6, 5, 4, 1, 2, 1, 1, 1, 6, 3, 6, 1, 2, 3, 2, 1, 1, 1)},
		"kids' numbers in no order":  {api.Spec{Nodes: []api.Node{{Kind: api.Box, Kids: []int{2, 1}}, {Kind: api.Label, Text: "a"}, {Kind: api.Label, Text: "bcd"}}}, sizes(4, 1, 1, 1, 3, 1)},
	} {
		if got, e := Need(x.s); !slices.Equal(got, x.want) || e != api.OK {
			t.Errorf("Need of %s: %v, %d; %v", name, got, e, x.want)
		}
		agree(t, x.s, rect(2, -3, 20, 10))
	}
}

// P12.1, P12.2, P12.3, P12.4: numbers of needs that are just as great as may be, and one more: each call is refused then.
func TestNeedsThatAreTooGreat(t *testing.T) {
	long := strings.Repeat("a", side)
	great, one := thing(side-9, side-9), thing(1, 1)
	small := func(w, h int) api.Spec { return thing(9+w, 9+h) }
	for name, x := range map[string]struct {
		fits, not api.Spec
	}{
		"a Label's width":          {label(long), label(long + "a")},
		"a Label's height":         {label(strings.Repeat("\n", side-1)), label(strings.Repeat("\n", side))},
		"a Button's width":         {of(api.Node{Kind: api.Button, Text: long[4:]}), of(api.Node{Kind: api.Button, Text: long[3:]})},
		"a row":                    {box(0, great, small(0, 0)), box(0, great, small(1, 0))},
		"a row's gap":              {box(8, great, one), box(9, great, one)},
		"a row's gaps":             {box(4, great, thing(0, 0), one), box(4, great, thing(0, 0), thing(2, 0))},
		"a row of gaps alone":      {box(side, thing(0, 0), thing(0, 0)), box(side, thing(0, 0), one)},
		"a column":                 {column(box(0, great, small(0, 0))), column(box(0, great, small(0, 1)))},
		"a column's gap":           {column(box(8, great, one)), column(box(9, great, one))},
		"a row with a pad":         {wrapped(box(0, great), pad(4)), wrapped(box(0, great), pad(5))},
		"a row's height with pads": {wrapped(box(0, thing(1, side-10)), pad(2), pad(3)), wrapped(box(0, thing(1, side-10)), pad(3), pad(3))},
		"a column with a pad":      {wrapped(column(box(0, great)), pad(4)), wrapped(column(box(0, great)), pad(5))},
		"a pad that can't measure": {wrapped(box(0, great), pad(4), hide(api.Measures)), wrapped(box(0, great), pad(5), hide(api.Measures))},
		"a pad about a Box":        {wrapped(box(0), pad(side)), wrapped(box(0, thing(0, 0)), pad(side))},
		"a Stack with a pad":       {wrapped(stack(great), pad(4)), wrapped(stack(great), pad(5))},
		"a Scroll with a pad":      {wrapped(scroll(0, 0, one), pad(side/2)), wrapped(scroll(0, 0, one), pad(side/2), pad(1))},
		"what a Scroll holds":      {scroll(0, 0, label(long)), scroll(0, 0, label(long+"a"))},
		"a Grid's width":           {grids(2, 0, great, small(0, 0)), grids(2, 0, great, small(1, 0))},
		"a Grid's height":          {grids(1, 0, great, small(0, 0)), grids(1, 0, great, small(0, 1))},
		"a Grid's gap":             {grids(2, 8, great, one), grids(2, 9, great, one)},
		"a Grid with a pad":        {wrapped(grids(2, 0, great), pad(4)), wrapped(grids(2, 0, great), pad(5))},
		"a node deep within":       {box(0, scroll(0, 0, stack(label(long)))), box(0, scroll(0, 0, stack(label(long+"a"))))},
		"the last of several":      {box(0, one, label("a"), scroll(0, 0, label(long))), box(0, one, label("a"), scroll(0, 0, label(long+"a")))},
		"one of a Max":             {atMost(label(long+"a"), side, 0), atMost(label(long+"a"), 0, side)},
		"one that is not there":    {box(0, hidden(label(long+"a"))), box(0, label(long+"a"))},
		"one that can't measure":   {wrapped(label(long+"a"), hide(api.Measures)), wrapped(label(long+"a"), hide(api.Paints))},
	} {
		if got, e := Need(x.fits); e != api.OK || len(got) != len(x.fits.Nodes) {
			t.Errorf("Need of %s: %v, %d", name, got, e)
		}
		agree(t, x.fits, rect(-side, -side, 2*side, 2*side))
		tooGreat(t, name, x.not)
		agree(t, x.not, rect(-side, -side, 2*side, 2*side))
	}
}

// tooGreat: whatever hangs on needs is ErrSize, with nothing beside it.
func tooGreat(t *testing.T, name string, s api.Spec) {
	t.Helper()
	s = box(0, hidden(label("a")), scroll(0, 0, s)) // so that there is a Box that asks for nothing itself
	var l []api.Place
	for node := range s.Nodes {
		l = append(l, api.Place{Node: node})
	}
	if got, e := Need(s); e != api.ErrSize || got != nil {
		t.Errorf("Need of %s: %v, %d", name, got, e)
	}
	if got, e := Places(s, rect(0, 0, 9, 9)); e != api.ErrSize || got != nil {
		t.Errorf("Places of %s: %v, %d", name, got, e)
	}
	if got, e := Of(s, rect(0, 0, 9, 9), 1); e != api.ErrSize || got != (api.Place{}) {
		t.Errorf("Of of %s: %v, %d", name, got, e)
	}
	if got, e := Fits(s, l); e != api.ErrSize || got != 0 {
		t.Errorf("Fits of %s: %v, %d", name, got, e)
	}
	for _, along := range []bool{true, false} {
		if got, n, e := Bounds(s, 0, along); e != api.ErrSize || got != nil || n != 0 {
			t.Errorf("Bounds of %s: %v, %d, %d", name, got, n, e)
		}
	}
}
