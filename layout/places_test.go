package layout

import (
	"slices"
	"testing"

	"casement/api"
)

// laid is the rectangles of places, one behind the other.
func laid(l []api.Place) []api.Rect {
	var all []api.Rect
	for _, p := range l {
		all = append(all, p.Rect)
	}
	return all
}

// P12.2: the rectangles of the chapter's examples, and of the edges that it names.
func TestPlaces(t *testing.T) {
	grown := box(1, label("ab"), grows(label("c"), 1))
	padded := func(l ...int) api.Spec { // "ab" and "c" within pads
		var wraps []api.Wrap
		for _, n := range l {
			wraps = append(wraps, pad(n))
		}
		return wrapped(two(), wraps...)
	}
	for name, x := range map[string]struct {
		s    api.Spec
		r    api.Rect
		want []api.Rect
	}{
		// the chapter's
		"B":                      {two(), rect(0, 0, 10, 2), rects(0, 0, 10, 2, 0, 0, 2, 2, 3, 0, 1, 2)},
		"c with the Grow 1":      {grown, rect(0, 0, 10, 2), rects(0, 0, 10, 2, 0, 0, 2, 2, 3, 0, 7, 2)},
		"with the Max 0 1":       {box(1, label("ab"), atMost(grows(label("c"), 1), 0, 1)), rect(0, 0, 10, 2), rects(0, 0, 10, 2, 0, 0, 2, 2, 3, 0, 7, 1)},
		"B with a WrapPad":       {padded(1), rect(0, 0, 10, 4), rects(0, 0, 10, 4, 1, 1, 2, 2, 4, 1, 1, 2)},
		"a Scroll of an Off":     {scroll(5, 0, label("abcdefghijkl")), rect(0, 0, 10, 1), rects(0, 0, 10, 1, -2, 0, 12, 1)},
		"one node":               {label("ab"), rect(3, 4, 50, 60), rects(3, 4, 50, 60)},
		"one node in too little": {label("ab"), rect(3, 4, 1, 0), rects(3, 4, 1, 0)},
		"the root has no most":   {atMost(label("ab"), 2, 1), rect(0, 0, 9, 9), rects(0, 0, 9, 9)},
		"V":                      {column(two()), rect(5, 6, 7, 20), rects(5, 6, 7, 20, 5, 6, 7, 1, 5, 8, 7, 1)},
		"V, c grows":             {column(grown), rect(5, 6, 7, 20), rects(5, 6, 7, 20, 5, 6, 7, 1, 5, 8, 7, 18)},

		// more room than is needed, as much, and less
		"as much as is needed":      {two(), rect(1, 2, 4, 1), rects(1, 2, 4, 1, 1, 2, 2, 1, 4, 2, 1, 1)},
		"less in one direction":     {two(), rect(1, 2, 3, 5), rects(1, 2, 3, 5, 1, 2, 2, 5, 4, 2, 1, 5)},
		"less in the other one":     {two(), rect(1, 2, 9, 0), rects(1, 2, 9, 0, 1, 2, 2, 1, 4, 2, 1, 1)},
		"less in both":              {two(), rect(1, 2, 0, 0), rects(1, 2, 0, 0, 1, 2, 2, 1, 4, 2, 1, 1)},
		"less in a column":          {column(two()), rect(1, 2, 1, 1), rects(1, 2, 1, 1, 1, 2, 2, 1, 1, 4, 1, 1)},
		"nobody grows":              {two(), rect(0, 0, 100, 1), rects(0, 0, 100, 1, 0, 0, 2, 1, 3, 0, 1, 1)},
		"both grow":                 {box(1, grows(label("ab"), 1), grows(label("c"), 2)), rect(0, 0, 10, 1), rects(0, 0, 10, 1, 0, 0, 4, 1, 5, 0, 5, 1)},
		"a Grow does not go across": {box(0, grows(thing(1, 1), 5)), rect(0, 0, 3, 4), rects(0, 0, 3, 4, 0, 0, 3, 4)},
		"who grows in less":         {grown, rect(0, 0, 2, 1), rects(0, 0, 2, 1, 0, 0, 2, 1, 3, 0, 1, 1)},

		// Max
		"a Max above the need, growing": {box(0, atMost(grows(label("ab"), 1), 5, 3)), rect(0, 0, 9, 9), rects(0, 0, 9, 9, 0, 0, 5, 3)},
		"a Max at the need":             {box(0, atMost(grows(label("ab"), 1), 2, 1)), rect(0, 0, 9, 9), rects(0, 0, 9, 9, 0, 0, 2, 1)},
		"a Max below the need":          {box(0, atMost(grows(two(), 1), 3, 1)), rect(0, 0, 9, 9), rects(0, 0, 9, 9, 0, 0, 4, 1, 0, 0, 2, 1, 3, 0, 1, 1)},
		"a Max below the need, across":  {box(0, atMost(column(two()), 1, 2)), rect(0, 0, 9, 9), rects(0, 0, 9, 9, 0, 0, 2, 3, 0, 0, 2, 1, 0, 2, 2, 1)},
		"a Max of what does not grow":   {box(0, atMost(label("ab"), 5, 3)), rect(0, 0, 9, 9), rects(0, 0, 9, 9, 0, 0, 2, 3)},
		"a Max in a column":             {column(box(0, atMost(grows(label("ab"), 1), 5, 3))), rect(0, 0, 9, 9), rects(0, 0, 9, 9, 0, 0, 5, 3)},
		"a Max in a column, one way":    {column(box(0, atMost(grows(label("ab"), 1), 5, 0))), rect(0, 0, 9, 9), rects(0, 0, 9, 9, 0, 0, 5, 9)},
		"a Max beside one that grows":   {box(1, atMost(grows(label("ab"), 1), 3, 0), grows(label("c"), 1)), rect(0, 0, 20, 1), rects(0, 0, 20, 1, 0, 0, 3, 1, 4, 0, 16, 1)},
		"a Max made more by pads":       {box(0, wrapped(atMost(grows(label("window"), 1), 4, 0), pad(2))), rect(0, 0, 20, 9), rects(0, 0, 20, 9, 0, 0, 8, 9)},
		"a Max in a Stack":              {stack(atMost(label("ab"), 5, 3)), rect(1, 1, 9, 9), rects(1, 1, 9, 9, 1, 1, 5, 3)},
		"a Max in a Scroll":             {scroll(3, 3, atMost(label("ab"), 5, 3)), rect(1, 1, 9, 9), rects(1, 1, 9, 9, 1, 1, 5, 3)},
		"a Max in a Grid":               {grids(2, 0, atMost(label("ab"), 3, 2), label("c")), rect(0, 0, 9, 9), rects(0, 0, 9, 9, 0, 0, 3, 2, 5, 0, 4, 9)},
		"a Max below the need, a Grid":  {grids(1, 0, atMost(two(), 1, 1)), rect(0, 0, 9, 9), rects(0, 0, 9, 9, 0, 0, 4, 1, 0, 0, 2, 1, 3, 0, 1, 1)},

		// pads
		"pads add up":                     {padded(1, 0, 2), rect(0, 0, 20, 9), rects(0, 0, 20, 9, 3, 3, 2, 3, 6, 3, 1, 3)},
		"pads between other wrappers":     {wrapped(two(), focus(), pad(1), hide(api.Measures), pad(1)), rect(0, 0, 20, 9), rects(0, 0, 20, 9, 2, 2, 2, 5, 5, 2, 1, 5)},
		"pads that leave one":             {padded(4), rect(0, 0, 9, 9), rects(0, 0, 9, 9, 4, 4, 2, 1, 7, 4, 1, 1)},
		"pads that just leave nothing":    {padded(4), rect(0, 0, 8, 8), rects(0, 0, 8, 8, 4, 4, 2, 1, 7, 4, 1, 1)},
		"pads beyond the middle":          {padded(6), rect(1, 1, 8, 10), rects(1, 1, 8, 10, 7, 7, 2, 1, 10, 7, 1, 1)},
		"pads up to the end":              {padded(8), rect(1, 1, 8, 10), rects(1, 1, 8, 10, 9, 9, 2, 1, 12, 9, 1, 1)},
		"pads beyond the end":             {padded(10), rect(1, 1, 8, 9), rects(1, 1, 8, 9, 9, 10, 2, 1, 12, 10, 1, 1)},
		"pads far beyond the end":         {wrapped(stack(), pad(side), pad(side)), rect(1, 1, 8, 9), rects(1, 1, 8, 9)},
		"pads of an empty rectangle":      {padded(3), rect(5, 6, 0, 0), rects(5, 6, 0, 0, 5, 6, 2, 1, 8, 6, 1, 1)},
		"a pad in a column":               {column(padded(2)), rect(0, 0, 9, 9), rects(0, 0, 9, 9, 2, 2, 5, 1, 2, 4, 5, 1)},
		"a pad about a Stack":             {wrapped(stack(label("ab")), pad(2)), rect(0, 0, 9, 9), rects(0, 0, 9, 9, 2, 2, 5, 5)},
		"a pad about a Grid":              {wrapped(grids(2, 0, label("a"), label("b")), pad(2)), rect(0, 0, 10, 9), rects(0, 0, 10, 9, 2, 2, 3, 5, 5, 2, 3, 5)},
		"a pad about a Scroll":            {wrapped(scroll(3, 1, label("abcdefgh")), pad(2)), rect(0, 0, 10, 9), rects(0, 0, 10, 9, 0, 2, 8, 5)},
		"a pad about a Label":             {box(0, wrapped(label("ab"), pad(2)), label("c")), rect(0, 0, 10, 9), rects(0, 0, 10, 9, 0, 0, 6, 9, 6, 0, 1, 9)},
		"pads within pads":                {wrapped(box(0, wrapped(grows(box(0, grows(label("a"), 1)), 1), pad(2))), pad(1)), rect(0, 0, 20, 10), rects(0, 0, 20, 10, 1, 1, 18, 8, 3, 3, 14, 4)},
		"a pad about one that can't hold": {wrapped(two(), pad(1), hide(api.Holds)), rect(0, 0, 9, 9), rects(0, 0, 9, 9, 0, 0, 0, 0, 0, 0, 0, 0)},

		// gaps
		"a Gap beside one":   {box(7, grows(label("a"), 1)), rect(0, 0, 9, 1), rects(0, 0, 9, 1, 0, 0, 9, 1)},
		"a Gap among none":   {box(side), rect(0, 0, 9, 1), rects(0, 0, 9, 1)},
		"a Gap among hidden": {box(7, hidden(label("a")), label("b"), hidden(label("c"))), rect(0, 0, 9, 1), rects(0, 0, 9, 1, 0, 0, 0, 0, 0, 0, 1, 1, 0, 0, 0, 0)},
		"Gaps beyond room":   {box(50, label("a"), label("b")), rect(0, 0, 9, 1), rects(0, 0, 9, 1, 0, 0, 1, 1, 51, 0, 1, 1)},

		// who is not there
		"a root that is Hidden": {hidden(two()), rect(1, 2, 9, 9), rects(0, 0, 0, 0, 0, 0, 0, 0, 0, 0, 0, 0)},
		"a root that is hollow": {wrapped(two(), half()), rect(1, 2, 9, 9), rects(0, 0, 0, 0, 0, 0, 0, 0, 0, 0, 0, 0)},
		"about a hollow one":    {wrapped(two(), half(), focus()), rect(1, 2, 9, 9), rects(1, 2, 9, 9, 0, 0, 0, 0, 0, 0, 0, 0)},
		"can't hold":            {wrapped(two(), only(api.Measures)), rect(1, 2, 9, 9), rects(1, 2, 9, 9, 0, 0, 0, 0, 0, 0, 0, 0)},
		"a kid that is Hidden":  {box(1, hidden(label("ab")), label("c")), rect(1, 2, 9, 9), rects(1, 2, 9, 9, 0, 0, 0, 0, 1, 2, 1, 9)},
		"a kid that is hollow":  {box(1, label("ab"), wrapped(label("c"), half()), label("d")), rect(1, 2, 9, 9), rects(1, 2, 9, 9, 1, 2, 2, 9, 0, 0, 0, 0, 4, 2, 1, 9)},
		"kids of a hidden one":  {stack(hidden(two()), label("c")), rect(1, 2, 9, 9), rects(1, 2, 9, 9, 0, 0, 0, 0, 0, 0, 0, 0, 0, 0, 0, 0, 1, 2, 9, 9)},
		"hidden in a Grid":      {grids(2, 0, label("a"), hidden(label("b")), label("c")), rect(0, 0, 8, 3), rects(0, 0, 8, 3, 0, 0, 4, 3, 0, 0, 0, 0, 4, 0, 4, 3)},
		"hidden in a Scroll":    {scroll(0, 0, hidden(label("a"))), rect(0, 0, 8, 3), rects(0, 0, 8, 3, 0, 0, 0, 0)},

		// Grids
		"a Grid":                  {grids(2, 0, label("a"), label("b"), label("c")), rect(0, 0, 8, 2), rects(0, 0, 8, 2, 0, 0, 4, 1, 4, 0, 4, 1, 0, 1, 4, 1)},
		"a Grid of spans":         {grids(2, 1, thing(3, 1), thing(5, 2), spans(thing(9, 1), 2)), rect(0, 0, 13, 6), rects(0, 0, 13, 6, 0, 0, 5, 3, 6, 0, 7, 3, 0, 4, 13, 2)},
		"a span in the first row": {grids(3, 1, spans(thing(7, 1), 2), thing(2, 1), thing(1, 1)), rect(2, 2, 10, 3), rects(2, 2, 10, 3, 2, 2, 7, 1, 10, 2, 2, 1, 2, 4, 1, 1)},
		"a span beyond columns":   {grids(2, 1, spans(thing(5, 1), 64), thing(2, 1)), rect(0, 0, 5, 3), rects(0, 0, 5, 3, 0, 0, 5, 1, 0, 2, 2, 1)},
		"a Grid in less":          {grids(2, 1, label("abc"), label("de")), rect(0, 0, 2, 0), rects(0, 0, 2, 0, 0, 0, 3, 1, 4, 0, 2, 1)},
		"a Grid in none":          {grids(2, 1), rect(0, 0, 2, 2), rects(0, 0, 2, 2)},
		"Grow is not a Grid's":    {grids(2, 0, grows(label("a"), 9), label("b")), rect(0, 0, 8, 1), rects(0, 0, 8, 1, 0, 0, 4, 1, 4, 0, 4, 1)},

		// Stacks
		"a Stack":            {stack(label("ab"), label("c")), rect(3, 4, 5, 6), rects(3, 4, 5, 6, 3, 4, 5, 6, 3, 4, 5, 6)},
		"a Stack in less":    {stack(label("abc"), label("a")), rect(0, 0, 2, 2), rects(0, 0, 2, 2, 0, 0, 3, 2, 0, 0, 2, 2)},
		"a Stack has no Off": {with(stack(thing(9, 9)), func(n *api.Node) { n.Off = api.Point{X: 3, Y: 3} }), rect(0, 0, 2, 2), rects(0, 0, 2, 2, 0, 0, 9, 9)},
		"a Box has no Off":   {with(two(), func(n *api.Node) { n.Off = api.Point{X: 3, Y: 3} }), rect(0, 0, 2, 0), rects(0, 0, 2, 0, 0, 0, 2, 1, 3, 0, 1, 1)},

		// Scrolls: of what is 12 5 in 10 3
		"an Off of 0":                 {scroll(0, 0, thing(12, 5)), rect(1, 1, 10, 3), rects(1, 1, 10, 3, 1, 1, 12, 5)},
		"an Off within":               {scroll(1, 1, thing(12, 5)), rect(1, 1, 10, 3), rects(1, 1, 10, 3, 0, 0, 12, 5)},
		"an Off up to the end":        {scroll(2, 2, thing(12, 5)), rect(1, 1, 10, 3), rects(1, 1, 10, 3, -1, -1, 12, 5)},
		"an Off beyond by one":        {scroll(3, 3, thing(12, 5)), rect(1, 1, 10, 3), rects(1, 1, 10, 3, -1, -1, 12, 5)},
		"an Off far beyond":           {scroll(1<<20, 1<<20, thing(12, 5)), rect(1, 1, 10, 3), rects(1, 1, 10, 3, -1, -1, 12, 5)},
		"an Off beyond one way":       {scroll(1, 7, thing(12, 5)), rect(1, 1, 10, 3), rects(1, 1, 10, 3, 0, -1, 12, 5)},
		"an Off the other way":        {scroll(7, 1, thing(12, 5)), rect(1, 1, 10, 3), rects(1, 1, 10, 3, -1, 0, 12, 5)},
		"a kid just as great":         {scroll(3, 3, thing(10, 3)), rect(1, 1, 10, 3), rects(1, 1, 10, 3, 1, 1, 10, 3)},
		"a kid that is less":          {scroll(3, 3, thing(4, 2)), rect(1, 1, 10, 3), rects(1, 1, 10, 3, 1, 1, 10, 3)},
		"a kid that is less one way":  {scroll(3, 3, thing(4, 5)), rect(1, 1, 10, 3), rects(1, 1, 10, 3, 1, -1, 10, 5)},
		"a kid that stays less":       {scroll(3, 3, atMost(thing(4, 2), 4, 2)), rect(1, 1, 10, 3), rects(1, 1, 10, 3, 1, 1, 4, 2)},
		"nothing in it":               {scroll(3, 3), rect(1, 1, 10, 3), rects(1, 1, 10, 3)},
		"an Off of what can't scroll": {wrapped(scroll(1, 1, thing(12, 5)), hide(api.Scrolls)), rect(1, 1, 10, 3), rects(1, 1, 10, 3, 0, 0, 12, 5)},
		"an Off, and a pad":           {wrapped(scroll(99, 99, thing(12, 5)), pad(1)), rect(1, 1, 10, 3), rects(1, 1, 10, 3, -2, -2, 12, 5)},
		"a Scroll in a Scroll":        {scroll(1, 1, atLeast(scroll(2, 2, thing(20, 20)), 12, 12)), rect(0, 0, 10, 10), rects(0, 0, 10, 10, -1, -1, 12, 12, -3, -3, 20, 20)},

		// rectangles without a place
		"an empty rectangle":      {stack(label("a")), rect(0, 0, 0, 0), rects(0, 0, 0, 0, 0, 0, 1, 1)},
		"one that is only high":   {box(0, box(0)), rect(5, 6, 0, 7), rects(5, 6, 0, 7, 5, 6, 0, 7)},
		"kids that have no place": {box(2, box(0), box(0)), rect(5, 6, 7, 8), rects(5, 6, 7, 8, 5, 6, 0, 8, 7, 6, 0, 8)},
		"kids' numbers in no order": {
			api.Spec{Nodes: []api.Node{{Kind: api.Box, Kids: []int{2, 1}}, {Kind: api.Label, Text: "a"}, {Kind: api.Label, Text: "bcd"}}},
			rect(0, 0, 9, 1), rects(0, 0, 9, 1, 3, 0, 1, 1, 0, 0, 3, 1),
		},
	} {
		l, e := Places(x.s, x.r)
		if got := laid(l); !slices.Equal(got, x.want) || e != api.OK {
			t.Errorf("Places of %s: %v, %d; %v", name, got, e, x.want)
		}
		for node, p := range l {
			if p.Node != node {
				t.Errorf("Places of %s: the place %d has the Node %d", name, node, p.Node)
			}
		}
		agree(t, x.s, x.r)
	}
}

// P12.2: clips, and what is shown.
func TestClips(t *testing.T) {
	for name, x := range map[string]struct {
		s     api.Spec
		r     api.Rect
		clips []api.Rect
		shown []bool
	}{
		"B":                        {two(), rect(0, 0, 10, 2), rects(0, 0, 10, 2, 0, 0, 10, 2, 0, 0, 10, 2), []bool{true, true, true}},
		"B that cuts one":          {two(), rect(0, 0, 1, 2), rects(0, 0, 1, 2, 0, 0, 1, 2, 0, 0, 1, 2), []bool{true, true, false}},
		"B that ends ahead of one": {two(), rect(0, 0, 3, 1), rects(0, 0, 3, 1, 0, 0, 3, 1, 0, 0, 3, 1), []bool{true, true, false}},
		"B that shows one of it":   {two(), rect(0, 0, 4, 1), rects(0, 0, 4, 1, 0, 0, 4, 1, 0, 0, 4, 1), []bool{true, true, true}},
		"a pad":                    {wrapped(two(), pad(1)), rect(0, 0, 10, 4), rects(0, 0, 10, 4, 1, 1, 8, 2, 1, 1, 8, 2), []bool{true, true, true}},
		"a pad that leaves none":   {wrapped(two(), pad(2)), rect(0, 0, 10, 4), rects(0, 0, 10, 4, 0, 0, 0, 0, 0, 0, 0, 0), []bool{true, false, false}},
		"a Scroll":                 {scroll(2, 0, label("abcdefghijkl")), rect(0, 0, 10, 1), rects(0, 0, 10, 1, 0, 0, 10, 1), []bool{true, true}},
		"a Scroll gone by one kid": {scroll(3, 0, box(0, label("abc"), label("defghijklmno"))), rect(0, 0, 9, 1), rects(0, 0, 9, 1, 0, 0, 9, 1, 0, 0, 9, 1, 0, 0, 9, 1), []bool{true, true, false, true}},
		"a Scroll that shows one":  {scroll(2, 0, box(0, label("abc"), label("defghijklmno"))), rect(0, 0, 9, 1), rects(0, 0, 9, 1, 0, 0, 9, 1, 0, 0, 9, 1, 0, 0, 9, 1), []bool{true, true, true, true}},
		"clips within clips":       {wrapped(scroll(0, 0, wrapped(stack(thing(9, 9)), pad(3))), pad(2)), rect(0, 0, 10, 10), rects(0, 0, 10, 10, 2, 2, 6, 6, 5, 5, 3, 3), []bool{true, true, true}},
		"a clip beyond what is":    {box(0, label("abcdef"), box(0, label("g"))), rect(0, 0, 6, 1), rects(0, 0, 6, 1, 0, 0, 6, 1, 0, 0, 6, 1, 0, 0, 0, 0), []bool{true, true, false, false}},
		"an empty rectangle":       {stack(label("a")), rect(0, 0, 0, 0), rects(0, 0, 0, 0, 0, 0, 0, 0), []bool{false, false}},
		"one that is only high":    {stack(label("a")), rect(5, 6, 0, 7), rects(5, 6, 0, 7, 0, 0, 0, 0), []bool{false, false}},
		"one without a place":      {box(0, box(0), label("a")), rect(0, 0, 9, 9), rects(0, 0, 9, 9, 0, 0, 9, 9, 0, 0, 9, 9), []bool{true, false, true}},
		"who is not there":         {box(0, hidden(label("a")), wrapped(label("b"), half())), rect(1, 1, 9, 9), rects(1, 1, 9, 9, 0, 0, 0, 0, 0, 0, 0, 0), []bool{true, false, false}},
		"a root that is not there": {hidden(two()), rect(1, 1, 9, 9), rects(0, 0, 0, 0, 0, 0, 0, 0, 0, 0, 0, 0), []bool{false, false, false}},
		"one node":                 {label("a"), rect(-5, -6, 3, 2), rects(-5, -6, 3, 2), []bool{true}},
	} {
		l, e := Places(x.s, x.r)
		if e != api.OK || len(l) != len(x.clips) {
			t.Errorf("Places of %s: %v, %d", name, l, e)
			continue
		}
		for node, p := range l {
			if p.Clip != x.clips[node] || p.Shown != x.shown[node] {
				t.Errorf("Places of %s, the node %d: %v, %v", name, node, p.Clip, p.Shown)
			}
		}
		agree(t, x.s, x.r)
	}
}

// P12.2: kids whose rectangles reach just up to the last place, and one beyond it, or from the first place on, and one ahead of it: ErrSize, and nothing beside it.
func TestBeyondTheLastPlace(t *testing.T) {
	for name, x := range map[string]struct {
		s    api.Spec
		fits api.Rect
		not  api.Rect
	}{
		"a row":               {two(), rect(side-4, 0, 1, 1), rect(side-3, 0, 1, 1)},
		"a row's height":      {two(), rect(0, side-1, 9, 1), rect(0, side, 9, 0)},
		"a column":            {column(two()), rect(0, side-3, 9, 1), rect(0, side-2, 9, 1)},
		"a column's width":    {column(two()), rect(side-2, 0, 1, 9), rect(side-1, 0, 1, 9)},
		"a Stack":             {stack(label("abc")), rect(side-3, 0, 0, 9), rect(side-2, 0, 0, 9)},
		"a Grid":              {grids(2, 0, label("abc"), label("d")), rect(side-4, 0, 0, 9), rect(side-3, 0, 0, 9)},
		"a Grid's height":     {grids(1, 0, label("abc"), label("d")), rect(0, side-2, 9, 0), rect(0, side-1, 9, 0)},
		"a Scroll":            {scroll(0, 0, label("abc")), rect(side-3, 0, 1, 9), rect(side-2, 0, 1, 9)},
		"a Scroll brought in": {scroll(9, 0, label("abc")), rect(side-2, 0, 2, 9), rect(side-1, side, 1, 0)},
		"a Scroll, ahead":     {scroll(9, 0, thing(12, 1)), rect(-side+2, 0, 10, 1), rect(-side+1, 0, 10, 1)},
		"a Scroll, above":     {scroll(0, 9, thing(1, 12)), rect(0, -side+9, 1, 1), rect(0, -side+8, 1, 1)},
		"pads":                {wrapped(stack(label("a")), pad(3)), rect(side-4, 0, 4, 9), rect(side-3, 0, 3, 9)},
		"kids of kids":        {box(0, box(0, label("abc"))), rect(side-3, 0, 0, 9), rect(side-2, 0, 0, 9)},
		"the last of kids":    {box(0, label("a"), label("b"), label("c")), rect(side-3, 0, 0, 9), rect(side-2, 0, 0, 9)},
		"one without a place": {box(1, box(0), box(0)), rect(side-1, 0, 1, 1), rect(side, 0, 0, 1)},
	} {
		if l, e := Places(x.s, x.fits); e != api.OK || len(l) != len(x.s.Nodes) {
			t.Errorf("Places of %s, %v: %v, %d", name, x.fits, l, e)
		}
		if l, e := Places(x.s, x.not); e != api.ErrSize || l != nil {
			t.Errorf("Places of %s, %v: %v, %d", name, x.not, l, e)
		}
		for node := range x.s.Nodes {
			if p, e := Of(x.s, x.not, node); e != api.ErrSize || p != (api.Place{}) {
				t.Errorf("Of of %s, %v, %d: %v, %d", name, x.not, node, p, e)
			}
		}
		// who is not there lies nowhere
		if l, e := Places(hidden(x.s), x.not); e != api.OK || len(l) != len(x.s.Nodes) {
			t.Errorf("Places of %s, hidden: %v, %d", name, l, e)
		}
		agree(t, x.s, x.fits)
		agree(t, x.s, x.not)
	}
}

// P12.2: what grid.Rects refuses is refused, also where a kid's Max would cut it short of the last place.
func TestGridAheadOfTheCut(t *testing.T) {
	s := grids(2, 3, thing(5, 1), spans(atMost(thing(5, 1), 5, 1), 2))
	if l, e := Places(s, rect(side-8, 0, 5, 5)); e != api.OK || l[2].Rect != rect(side-8, 4, 5, 1) {
		t.Errorf("Places: %v, %d", l, e)
	}
	if l, e := Places(s, rect(side-5, 0, 5, 5)); e != api.ErrSize || l != nil {
		t.Errorf("Places: %v, %d", l, e)
	}
}

// P12.2, P12.6: as great rectangles as there may be.
func TestGreatRectangles(t *testing.T) {
	whole := rect(-side, -side, 2*side, 2*side)
	for name, x := range map[string]struct {
		s    api.Spec
		last api.Rect
	}{
		"a Label":  {label("a"), whole},
		"a row":    {box(0, grows(label("a"), 1)), whole},
		"a column": {column(box(0, grows(label("a"), 1))), whole},
		"a Stack":  {stack(label("a")), whole},
		"a Grid":   {grids(1, 0, label("a")), whole},
		"a Scroll": {scroll(5, 5, label("a")), whole},
		"a pad":    {wrapped(stack(thing(0, 0)), pad(side/2)), rect(-side/2, -side/2, side, side)},
		"a Max":    {stack(atMost(label("a"), side, side)), rect(-side, -side, side, side)},
	} {
		if l, e := Places(x.s, whole); e != api.OK || l[len(l)-1].Rect != x.last {
			t.Errorf("Places of %s: %v, %d", name, l, e)
		}
		agree(t, x.s, whole)
	}
}

// P12.1, P12.2, P12.3, P12.4: a spec of one node, of as many as there may be, and of one more; as deep as may be, and one deeper.
func TestManyNodes(t *testing.T) {
	flat := func(kind uint8, count int) api.Spec {
		var kids []api.Spec
		for range count - 1 {
			kids = append(kids, thing(1, 1))
		}
		return of(api.Node{Kind: kind, Columns: 64, Gap: 1}, kids...)
	}
	deep := func(count int) api.Spec {
		s := label("a")
		for range count - 1 {
			s = wrapped(box(0, s), pad(1))
		}
		return s
	}
	for i, x := range []struct {
		s    api.Spec
		need api.Size
	}{
		{flat(api.Box, 1024), api.Size{W: 2*1023 - 1, H: 1}},
		{column(flat(api.Box, 1024)), api.Size{W: 1, H: 2*1023 - 1}},
		{flat(api.Grid, 1024), api.Size{W: 127, H: 31}},
		{flat(api.Stack, 1024), api.Size{W: 1, H: 1}},
		{deep(64), api.Size{W: 127, H: 127}},
	} {
		needs, e := Need(x.s)
		if e != api.OK || len(needs) != len(x.s.Nodes) || needs[0] != x.need {
			t.Fatalf("Need %d: %d, %d", i, len(needs), e)
		}
		r := api.Rect{At: api.Point{X: 5, Y: 6}, Size: x.need}
		l, e := Places(x.s, r)
		if len(l) != len(x.s.Nodes) || e != api.OK {
			t.Fatalf("Places %d: %d, %d", i, len(l), e)
		}
		if k, e := Fits(x.s, l); k != -1 || e != api.OK {
			t.Errorf("Fits %d: %d, %d", i, k, e)
		}
		last := len(l) - 1
		if p, e := Of(x.s, r, last); p != l[last] || e != api.OK {
			t.Errorf("Of %d: %v, %d", i, p, e)
		}
		l[last].Rect.At.X -= 2 // by more than the gap
		if k, e := Fits(x.s, l); k != last || e != api.OK {
			t.Errorf("Fits %d of what lies elsewhere: %d, %d", i, k, e)
		}
	}
	if l, n, e := Bounds(flat(api.Box, 1024), 0, true); len(l) != 2*1023-1 || n != 2*1023 || e != api.OK {
		t.Errorf("Bounds: %d, %d, %d", len(l), n, e)
	}
	if l, n, e := Bounds(flat(api.Box, 1024), 0, false); len(l) != 1023 || n != 2 || e != api.OK {
		t.Errorf("Bounds across: %d, %d, %d", len(l), n, e)
	}
	for i, s := range []api.Spec{{}, flat(api.Box, 1025), deep(65)} {
		if l, e := Need(s); l != nil || e != api.ErrSpec {
			t.Errorf("Need of what may not be %d: %d, %d", i, len(l), e)
		}
	}
}
