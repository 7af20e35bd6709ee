package layout

import (
	"math"
	"slices"
	"testing"

	"casement/api"
)

// at is places of these rectangles.
func at(l ...int) []api.Place {
	var all []api.Place
	for node, r := range rects(l...) {
		all = append(all, api.Place{Node: node, Rect: r})
	}
	return all
}

// P12.4: the chapter's examples, and each way in which a place does not fit by one, beside one that just does.
func TestFits(t *testing.T) {
	b, narrow := two(), stack(atMost(label("ab"), 4, 3))
	padded := wrapped(stack(label("ab")), pad(2))
	spot := stack(thing(0, 0))
	turned := api.Spec{Nodes: []api.Node{{Kind: api.Box, Kids: []int{2, 1}}, {Kind: api.Label, Text: "a"}, {Kind: api.Label, Text: "b"}}}
	for name, x := range map[string]struct {
		s    api.Spec
		l    []api.Place
		want int
	}{
		"all in 0 0 1 1": {b, at(0, 0, 1, 1, 0, 0, 1, 1, 0, 0, 1, 1), 0},
		"B":              {b, at(0, 0, 10, 2, 0, 0, 2, 2, 3, 0, 1, 2), -1},

		// the root: what it needs, and no most
		"the root at its need":       {b, at(0, 0, 4, 1, 0, 0, 2, 1, 3, 0, 1, 1), -1},
		"the root less wide":         {b, at(0, 0, 3, 1, 0, 0, 2, 1, 2, 0, 1, 1), 0},
		"the root less high":         {b, at(0, 0, 4, 0, 0, 0, 2, 1, 3, 0, 1, 1), 0},
		"the root above its most":    {atMost(label("ab"), 2, 1), at(0, 0, 9, 9), -1},
		"the root that may not be":   {b, at(side-9, 0, 10, 2, 0, 0, 2, 2, 3, 0, 1, 2), 0},
		"the root at the last place": {label("ab"), at(side-2, side-1, 2, 1), -1},
		"the root beyond it":         {label("ab"), at(side-1, side-1, 2, 1), 0},
		"the root at the first one":  {label("ab"), at(-side, -side, 2, 1), -1},
		"the root ahead of it":       {label("ab"), at(-side-1, -side, 2, 1), 0},
		"the root above it":          {label("ab"), at(-side, -side-1, 2, 1), 0},
		"the root far away":          {label("ab"), at(math.MaxInt, 0, math.MaxInt, 1), 0},
		"the root far ahead":         {label("ab"), at(math.MinInt, math.MinInt, math.MaxInt, math.MaxInt), 0},

		// a kid's size
		"a kid less wide":     {b, at(0, 0, 10, 2, 0, 0, 1, 2, 3, 0, 1, 2), 1},
		"a kid less high":     {b, at(0, 0, 10, 2, 0, 0, 2, 0, 3, 0, 1, 2), 1},
		"a kid at its most":   {narrow, at(0, 0, 9, 9, 0, 0, 4, 3), -1},
		"a kid too wide":      {narrow, at(0, 0, 9, 9, 0, 0, 5, 3), 1},
		"a kid too high":      {narrow, at(0, 0, 9, 9, 0, 0, 4, 4), 1},
		"a kid of any most":   {stack(label("ab")), at(0, 0, 9, 9, 0, 0, 9, 9), -1},
		"a most by the need":  {stack(atMost(two(), 1, 1)), at(0, 0, 9, 9, 0, 0, 4, 1, 0, 0, 2, 1, 3, 0, 1, 1), -1},
		"above that most":     {stack(atMost(two(), 1, 1)), at(0, 0, 9, 9, 0, 0, 5, 1, 0, 0, 2, 1, 3, 0, 1, 1), 1},
		"a kid may not be":    {b, at(0, 0, 10, 2, 0, 0, 2, 2, 3, 0, 2*side, 2), 2},
		"a kid's W below 0":   {spot, at(0, 0, 9, 9, 5, 5, -1, 1), 1},
		"a kid's H below 0":   {spot, at(0, 0, 9, 9, 5, 5, 1, -1), 1},
		"a kid far away":      {spot, at(0, 0, 9, 9, math.MaxInt, 0, math.MaxInt, 1), 1},
		"a Scroll's at most":  {scroll(0, 0, atMost(label("ab"), 4, 3)), at(0, 0, 1, 1, -50, 70, 4, 3), -1},
		"a Scroll's too wide": {scroll(0, 0, atMost(label("ab"), 4, 3)), at(0, 0, 1, 1, 0, 0, 5, 3), 1},
		"a Scroll's too high": {scroll(0, 0, atMost(label("ab"), 4, 3)), at(0, 0, 1, 1, 0, 0, 4, 4), 1},
		"a Scroll's too less": {scroll(0, 0, label("ab")), at(0, 0, 1, 1, 0, 0, 1, 3), 1},
		"a Scroll's not be":   {scroll(0, 0, label("ab")), at(0, 0, 1, 1, side-1, 0, 2, 3), 1},

		// within what is left
		"just in a Box":            {box(0, label("ab")), at(1, 2, 5, 4, 1, 2, 5, 4), -1},
		"left of a Box":            {box(0, label("ab")), at(1, 2, 5, 4, 0, 2, 5, 4), 1},
		"right of a Box":           {box(0, label("ab")), at(1, 2, 5, 4, 1, 2, 6, 4), 1},
		"above a Box":              {box(0, label("ab")), at(1, 2, 5, 4, 1, 1, 5, 4), 1},
		"below a Box":              {box(0, label("ab")), at(1, 2, 5, 4, 1, 2, 5, 5), 1},
		"just in a Grid":           {grids(1, 0, label("ab")), at(1, 2, 5, 4, 1, 2, 5, 4), -1},
		"left of a Grid":           {grids(1, 0, label("ab")), at(1, 2, 5, 4, 0, 2, 5, 4), 1},
		"below a Grid":             {grids(1, 0, label("ab")), at(1, 2, 5, 4, 1, 2, 5, 5), 1},
		"just within pads":         {padded, at(0, 0, 9, 8, 2, 2, 5, 4), -1},
		"left in a pad":            {padded, at(0, 0, 9, 8, 1, 2, 5, 4), 1},
		"right in a pad":           {padded, at(0, 0, 9, 8, 2, 2, 6, 4), 1},
		"above in a pad":           {padded, at(0, 0, 9, 8, 2, 1, 5, 4), 1},
		"below in a pad":           {padded, at(0, 0, 9, 8, 2, 2, 5, 5), 1},
		"a spot at the beginning":  {spot, at(3, 3, 4, 4, 3, 3, 0, 0), -1},
		"a spot at the end":        {spot, at(3, 3, 4, 4, 7, 7, 0, 0), -1},
		"a spot beyond the end":    {spot, at(3, 3, 4, 4, 8, 7, 0, 0), 1},
		"a spot below the end":     {spot, at(3, 3, 4, 4, 7, 8, 0, 0), 1},
		"a spot ahead":             {spot, at(3, 3, 4, 4, 2, 3, 0, 0), 1},
		"a spot above":             {spot, at(3, 3, 4, 4, 3, 2, 0, 0), 1},
		"a spot that is not there": {box(0, hidden(label("a"))), at(3, 3, 4, 4, 0, 0, 0, 0), -1},
		"anywhere in a Scroll":     {scroll(0, 0, label("ab")), at(0, 0, 1, 1, 900, -800, 2, 1), -1},
		"what holds counts":        {stack(box(0, label("a"))), at(0, 0, 9, 9, 4, 4, 2, 2, 3, 4, 1, 1), 2},

		// beside others
		"just behind":                {b, at(0, 0, 10, 2, 0, 0, 3, 2, 3, 0, 1, 2), -1},
		"over by one":                {b, at(0, 0, 10, 2, 0, 0, 4, 2, 3, 0, 1, 2), 2},
		"a Gap is not asked":         {b, at(0, 0, 10, 2, 0, 0, 2, 2, 2, 0, 8, 2), -1},
		"ahead of the first":         {b, at(0, 0, 10, 2, 8, 0, 2, 2, 0, 0, 8, 2), -1},
		"below one another":          {b, at(0, 0, 10, 2, 0, 0, 10, 1, 0, 1, 10, 1), -1},
		"a column, over by one":      {column(b), at(0, 0, 9, 9, 0, 0, 9, 3, 0, 2, 9, 1), 2},
		"a Grid, just behind":        {grids(2, 0, label("a"), label("b")), at(0, 0, 10, 2, 0, 0, 3, 2, 3, 0, 1, 2), -1},
		"a Grid, over by one":        {grids(2, 0, label("a"), label("b")), at(0, 0, 10, 2, 0, 0, 4, 2, 3, 0, 1, 2), 2},
		"a Stack, over":              {stack(label("a"), label("b")), at(0, 0, 10, 2, 0, 0, 10, 2, 0, 0, 10, 2), -1},
		"not the nearest ahead":      {box(0, label("a"), label("b"), label("c")), at(0, 0, 10, 1, 0, 0, 3, 1, 3, 0, 3, 1, 2, 0, 1, 1), 3},
		"empty ones are over none":   {box(0, box(0), box(0), box(0)), at(0, 0, 9, 9, 0, 0, 9, 9, 3, 3, 0, 5, 4, 4, 5, 0), -1},
		"ahead is by Kids":           {turned, at(0, 0, 9, 9, 0, 0, 2, 1, 1, 0, 2, 1), 1},
		"ahead is by Kids, well":     {turned, at(0, 0, 9, 9, 0, 0, 2, 1, 2, 0, 2, 1), -1},
		"ahead is one that can't be": {turned, at(0, 0, 9, 9, 0, 0, 2, 1, 0, 0, 2, 16400), 2},
		"other Boxes' kids":          {stack(box(0, label("a")), box(0, label("b"))), at(0, 0, 3, 3, 0, 0, 3, 3, 0, 0, 3, 3, 0, 0, 3, 3, 0, 0, 3, 3), -1},
		"hidden ones are no others":  {box(0, hidden(label("a")), label("b")), at(0, 0, 3, 3, 0, 0, 0, 0, 0, 0, 3, 3), -1},

		// who is not there
		"a root not there":      {hidden(b), at(0, 0, 0, 0, 0, 0, 0, 0, 0, 0, 0, 0), -1},
		"a root that is told":   {hidden(b), at(0, 0, 4, 1, 0, 0, 0, 0, 0, 0, 0, 0), 0},
		"its kid that is told":  {hidden(b), at(0, 0, 0, 0, 0, 0, 0, 0, 0, 0, 1, 0), 2},
		"a kid of what can't":   {wrapped(b, hide(api.Holds)), at(0, 0, 9, 9, 0, 0, 2, 1, 0, 0, 0, 0), 1},
		"a hollow one, told":    {box(0, wrapped(label("a"), half())), at(0, 0, 9, 9, 1, 0, 0, 0), 1},
		"the least number":      {b, at(0, 0, 10, 2, 0, 0, 1, 2, 3, 0, 0, 2), 1},
		"the least, below both": {stack(box(0, label("a")), label("b")), at(0, 0, 9, 9, 0, 0, 9, 9, 0, 0, 9, 10, 0, 0, 0, 0), 2},
	} {
		if got, e := Fits(x.s, x.l); got != x.want || e != api.OK {
			t.Errorf("Fits of %s: %d, %d; %d", name, got, e, x.want)
		}
		if got, e := modelFits(x.s, x.l); got != x.want || e != api.OK {
			t.Errorf("the model of Fits of %s: %d, %d; %d", name, got, e, x.want)
		}
	}
}

// P12.4: of a node that is there Clip and Shown count for nothing, of another one each number counts.
func TestFitsClips(t *testing.T) {
	s := box(0, label("a"), hidden(label("b")))
	for i, change := range []func(p *api.Place){
		func(p *api.Place) { p.Shown = true },
		func(p *api.Place) { p.Clip.At.X = 1 },
		func(p *api.Place) { p.Clip.At.Y = -1 },
		func(p *api.Place) { p.Clip.Size.W = 1 },
		func(p *api.Place) { p.Clip.Size.H = -1 },
		func(p *api.Place) { p.Rect.At.X = -1 },
		func(p *api.Place) { p.Rect.At.Y = 1 },
		func(p *api.Place) { p.Rect.Size.W = 1 },
		func(p *api.Place) { p.Rect.Size.H = 1 },
	} {
		l := at(2, 2, 3, 3, 3, 3, 1, 1, 0, 0, 0, 0)
		change(&l[2])
		if got, e := Fits(s, l); got != 2 || e != api.OK {
			t.Errorf("Fits %d of one that is not there: %d, %d", i, got, e)
		}
		if i < 5 {
			l = at(2, 2, 3, 3, 3, 3, 1, 1, 0, 0, 0, 0)
			change(&l[0])
			change(&l[1])
			if got, e := Fits(s, l); got != -1 || e != api.OK {
				t.Errorf("Fits %d of one that is: %d, %d", i, got, e)
			}
		}
	}
}

// P12.4: lists that are not the nodes' places.
func TestFitsOfOthers(t *testing.T) {
	s := two()
	l, _ := Places(s, rect(0, 0, 10, 2))
	numbered := func(numbers ...int) []api.Place {
		l := slices.Clone(l)
		for i, n := range numbers {
			l[i].Node = n
		}
		return l
	}
	for i, x := range [][]api.Place{
		nil, {}, l[:1], l[:2], append(slices.Clone(l), api.Place{Node: 3}), slices.Repeat(l, 400),
		numbered(1, 1, 2), numbered(0, 2, 1), numbered(0, 1, 3), numbered(0, 1, -1), numbered(0, 0, 0), numbered(-1, 1, 2), numbered(math.MaxInt, 1, 2),
	} {
		if got, e := Fits(s, x); got != 0 || e != api.ErrArg {
			t.Errorf("Fits of others %d: %d, %d", i, got, e)
		}
		// also of one that is not there
		if got, e := Fits(hidden(s), x); got != 0 || e != api.ErrArg {
			t.Errorf("Fits of others %d, hidden: %d, %d", i, got, e)
		}
	}
}

// P12.6: places in as much room as the root needs, and more, fit all nodes; in less they do not fit the root.
func TestPlacesFit(t *testing.T) {
	for name, s := range map[string]api.Spec{
		"B": two(), "V": column(two()), "a pad": wrapped(two(), pad(3)), "a Stack": stack(label("ab"), atMost(label("c"), 1, 1)),
		"a Grid":   grids(2, 1, thing(3, 1), thing(5, 2), spans(thing(9, 1), 2), atMost(thing(2, 2), 2, 2)),
		"a Scroll": atLeast(scroll(9, 9, column(box(2, two(), label("window")))), 3, 1),
		"a Max":    box(1, atMost(grows(label("ab"), 3), 4, 2), atMost(wrapped(grows(label("c"), 1), pad(2)), 1, 1)),
		"several":  column(box(1, two(), hidden(two()), grids(3, 1, two(), stack(two(), scroll(1, 1, two()))))),
	} {
		needs, e := Need(s)
		if e != api.OK {
			t.Fatalf("Need of %s: %d", name, e)
		}
		for w := range 4 {
			for h := range 4 {
				r := rect(-7, 5, needs[0].W+w*w, needs[0].H+h*h)
				l, e := Places(s, r)
				if e != api.OK {
					t.Fatalf("Places of %s: %d", name, e)
				}
				if k, e := Fits(s, l); k != -1 || e != api.OK {
					t.Errorf("Places of %s in %v: %v do not fit %d, %d", name, r, l, k, e)
				}
			}
		}
		for _, r := range []api.Rect{rect(0, 0, needs[0].W-1, needs[0].H), rect(0, 0, needs[0].W, needs[0].H-1)} {
			l, e := Places(s, r)
			if k, _ := Fits(s, l); k != 0 || e != api.OK {
				t.Errorf("Places of %s in %v fit: %d, %d", name, r, k, e)
			}
		}
	}
}
