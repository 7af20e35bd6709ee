package focus

import (
	"testing"

	"casement/api"
	"casement/layout"
)

// board is a Stack of things that can be focused, each in a rectangle of its own from the Stack's corner on, told as x, y, w, h and its order. Their numbers are what at tells.
func board(l ...[5]int) api.Spec {
	var all []api.Spec
	for _, x := range l {
		spot := of(api.Node{Kind: api.Canvas, Min: api.Size{W: x[2], H: x[3]}, Wraps: []api.Wrap{focusing(x[4])}})
		all = append(all, columns(thing(0, x[1]), box(thing(x[0], 0), spot)))
	}
	return stack(all...)
}

// at is the number of a board's thing, and none of -1.
func at(i int) int { return 5*i + 5 }

// toward asks a board's thing for the nearest one of a way; -1: there is none.
func toward(t *testing.T, name string, s api.Spec, r api.Rect, from int, way uint8, want int) {
	t.Helper()
	node, is := 0, want >= 0
	if is {
		node = at(want)
	}
	if got, ok, e := Toward(s, r, at(from), way); got != node || ok != is || e != api.OK {
		t.Errorf("Toward of %s, from %d by %d: %d, %v, %d; %d", name, from, way, got, ok, e, node)
	}
	agree(t, s, r)
}

func room() api.Rect { return rect(0, 0, 100, 100) }

// The board itself: things lie where they are told.
func TestBoard(t *testing.T) {
	s := board([5]int{3, 4, 5, 6, 0}, [5]int{30, 40, 0, 6, 1}, [5]int{0, 0, 7, 0, 2}, [5]int{90, 90, 30, 1, 3})
	for i, want := range []api.Rect{rect(1, 1, 5, 6), rect(28, 37, 0, 6), rect(-2, -3, 7, 0), rect(88, 87, 30, 1)} {
		if p, e := layout.Of(s, rect(-2, -3, 100, 100), at(i)); p.Rect != want || e != api.OK {
			t.Errorf("%d: %v, %d", i, p, e)
		}
	}
}

// P18.3: the chapter's examples.
func TestExamplesOfToward(t *testing.T) {
	for _, x := range []struct {
		node int
		way  uint8
		to   int
		is   bool
		e    api.Errno
	}{
		{1, 1, 2, true, api.OK}, {3, 1, 0, false, api.OK}, {3, 0, 2, true, api.OK}, {3, 2, 0, false, api.OK}, {3, 3, 0, false, api.OK}, {1, 4, 0, false, api.ErrArg},
		{2, 0, 1, true, api.OK}, {2, 1, 3, true, api.OK}, {1, 0, 0, false, api.OK},
		{0, 1, 0, false, api.ErrFocus}, {4, 1, 0, false, api.ErrFocus}, {5, 0, 0, false, api.ErrFocus},
		{-1, 0, 0, false, api.ErrNode}, {-2, 0, 0, false, api.ErrNode}, {6, 0, 0, false, api.ErrNode}, {-1, 4, 0, false, api.ErrNode},
		{5, 4, 0, false, api.ErrArg}, {2, 255, 0, false, api.ErrArg}, {2, 5, 0, false, api.ErrArg},
	} {
		if to, is, e := Toward(tee(), wide(), x.node, x.way); to != x.to || is != x.is || e != x.e {
			t.Errorf("Toward %d by %d: %d, %v, %d", x.node, x.way, to, is, e)
		}
	}
}

// P18.3: what lies a way, by the edges: touching ones do, those that reach one place further do not.
func TestWays(t *testing.T) {
	a := [5]int{40, 40, 6, 4, 0}
	for name, x := range map[string]struct {
		b    [5]int
		ways [4]bool
	}{
		"touching on the left":     {[5]int{35, 40, 5, 4, 0}, [4]bool{true, false, false, false}},
		"one over on the left":     {[5]int{36, 40, 5, 4, 0}, [4]bool{}},
		"away on the left":         {[5]int{3, 40, 5, 4, 0}, [4]bool{true, false, false, false}},
		"touching on the right":    {[5]int{46, 40, 5, 4, 0}, [4]bool{false, true, false, false}},
		"one over on the right":    {[5]int{45, 40, 5, 4, 0}, [4]bool{}},
		"away on the right":        {[5]int{90, 40, 5, 4, 0}, [4]bool{false, true, false, false}},
		"touching above":           {[5]int{40, 37, 6, 3, 0}, [4]bool{false, false, true, false}},
		"one over above":           {[5]int{40, 38, 6, 3, 0}, [4]bool{}},
		"away above":               {[5]int{40, 0, 6, 3, 0}, [4]bool{false, false, true, false}},
		"touching below":           {[5]int{40, 44, 6, 3, 0}, [4]bool{false, false, false, true}},
		"one over below":           {[5]int{40, 43, 6, 3, 0}, [4]bool{}},
		"away below":               {[5]int{40, 90, 6, 3, 0}, [4]bool{false, false, false, true}},
		"left and above":           {[5]int{34, 36, 6, 4, 0}, [4]bool{true, false, true, false}},
		"right and below":          {[5]int{46, 44, 1, 1, 0}, [4]bool{false, true, false, true}},
		"left, higher and lower":   {[5]int{0, 0, 40, 100, 0}, [4]bool{true, false, false, false}},
		"below, left and right":    {[5]int{0, 44, 100, 1, 0}, [4]bool{false, false, false, true}},
		"far on the left, lower":   {[5]int{0, 99, 1, 1, 0}, [4]bool{true, false, false, true}},
		"alike":                    {a, [4]bool{}},
		"within":                   {[5]int{41, 41, 2, 2, 0}, [4]bool{}},
		"about it":                 {[5]int{0, 0, 100, 100, 0}, [4]bool{}},
		"over its left edge":       {[5]int{39, 40, 2, 4, 0}, [4]bool{}},
		"of no width, on the left": {[5]int{30, 40, 0, 4, 0}, [4]bool{}},
		"of no height, below":      {[5]int{40, 60, 6, 0, 0}, [4]bool{}},
		"of no size":               {[5]int{60, 60, 0, 0, 0}, [4]bool{}},
		"beyond the rectangle":     {[5]int{100, 40, 5, 4, 0}, [4]bool{}},
		"just shown":               {[5]int{99, 40, 5, 4, 0}, [4]bool{false, true, false, false}},
	} {
		for way, is := range x.ways {
			want := map[bool]int{true: 1, false: -1}[is]
			toward(t, name, board(a, x.b), room(), 0, uint8(way), want)
			// a thing of an order ahead of it, that lies no way, changes nothing
			back := map[bool]int{true: 0, false: -1}[is]
			toward(t, name+", the other way round", board(x.b, a, [5]int{41, 41, 1, 1, 1}), room(), 1, uint8(way), back)
		}
	}
}

// P18.3: the way there and back are not the same question, but edges are: what lies on one's left has one on its right.
func TestWaysBack(t *testing.T) {
	s := board([5]int{10, 10, 5, 5, 0}, [5]int{20, 12, 5, 5, 0}, [5]int{12, 30, 5, 5, 0})
	for _, x := range [][3]int{{0, 1, 1}, {1, 0, 0}, {0, 3, 2}, {2, 2, 0}, {1, 3, 2}, {2, 1, 1}, {1, 1, -1}, {0, 0, -1}, {0, 2, -1}, {2, 3, -1}, {1, 2, -1}, {2, 0, -1}} {
		toward(t, "three", s, room(), x[0], uint8(x[1]), x[2])
	}
}

// P18.3: the nearest: sums of how far the middles are apart, aside twice; of like ones the first one in the order of the focus.
func TestNearest(t *testing.T) {
	a := [5]int{40, 40, 4, 4, 0}
	for name, x := range map[string]struct {
		way  uint8
		b, c [5]int
		to   int // 1: b
	}{
		"nearer on the right":       {1, [5]int{70, 40, 4, 4, 0}, [5]int{60, 40, 4, 4, 0}, 2},
		"nearer on the left":        {0, [5]int{10, 40, 4, 4, 0}, [5]int{20, 40, 4, 4, 0}, 2},
		"nearer above":              {2, [5]int{40, 10, 4, 4, 0}, [5]int{40, 20, 4, 4, 0}, 2},
		"nearer below":              {3, [5]int{40, 70, 4, 4, 0}, [5]int{40, 60, 4, 4, 0}, 2},
		"aside counts twice, right": {1, [5]int{44, 44, 4, 4, 0}, [5]int{50, 40, 4, 4, 0}, 2}, // 8 + 16, 20
		"aside counts twice, left":  {0, [5]int{36, 36, 4, 4, 0}, [5]int{30, 40, 4, 4, 0}, 2},
		"aside counts twice, above": {2, [5]int{44, 36, 4, 4, 0}, [5]int{40, 30, 4, 4, 0}, 2},
		"aside counts twice, below": {3, [5]int{36, 44, 4, 4, 0}, [5]int{40, 50, 4, 4, 0}, 2},
		"but no more, right":        {1, [5]int{53, 40, 4, 4, 0}, [5]int{44, 44, 4, 4, 0}, 2}, // 26, 8 + 16
		"but no more, below":        {3, [5]int{40, 53, 4, 4, 0}, [5]int{44, 44, 4, 4, 0}, 2},
		"up and down are alike":     {1, [5]int{50, 45, 4, 4, 0}, [5]int{50, 36, 4, 4, 0}, 2},
		"left and right are alike":  {2, [5]int{45, 20, 4, 4, 0}, [5]int{36, 20, 4, 4, 0}, 2},

		"like sums, the first one":         {1, [5]int{52, 40, 4, 4, 0}, [5]int{44, 44, 4, 4, 0}, 1}, // 24, 8 + 16
		"like sums, the first one in turn": {1, [5]int{44, 44, 4, 4, 0}, [5]int{52, 40, 4, 4, 0}, 1},
		"like sums, by the order":          {1, [5]int{52, 40, 4, 4, 2}, [5]int{44, 44, 4, 4, 1}, 2},
		"like sums, 0 comes last":          {1, [5]int{52, 40, 4, 4, 0}, [5]int{44, 44, 4, 4, 9}, 2},
		"like sums above":                  {2, [5]int{36, 36, 4, 4, 3}, [5]int{40, 28, 4, 4, 2}, 2},
		"alike but for up and down":        {0, [5]int{20, 45, 4, 4, 0}, [5]int{20, 35, 4, 4, 0}, 1},
		"alike but for left and right":     {3, [5]int{35, 60, 4, 4, 0}, [5]int{45, 60, 4, 4, 1}, 2},
		"alike wholly":                     {3, [5]int{35, 60, 4, 4, 5}, [5]int{35, 60, 4, 4, 4}, 2},
		"alike in all but size":            {1, [5]int{50, 39, 6, 6, 0}, [5]int{51, 40, 4, 4, 1}, 2}, // both middles are 106 84
		"orders do not count else":         {1, [5]int{60, 40, 4, 4, 1}, [5]int{59, 40, 4, 4, 7}, 2},

		"like ways, nearer aside":   {1, [5]int{50, 47, 4, 4, 0}, [5]int{50, 46, 4, 4, 0}, 2},
		"like aside, nearer a way":  {1, [5]int{51, 47, 4, 4, 0}, [5]int{50, 47, 4, 4, 0}, 2},
		"middles, not edges":        {1, [5]int{45, 40, 20, 4, 0}, [5]int{50, 40, 4, 4, 0}, 2}, // 26, 20
		"middles, not edges, above": {2, [5]int{40, 9, 4, 30, 0}, [5]int{40, 25, 4, 4, 0}, 2},

		"odd widths":              {1, [5]int{50, 40, 5, 4, 0}, [5]int{50, 40, 4, 4, 0}, 2}, // 21, 20
		"odd widths, left":        {0, [5]int{20, 40, 4, 4, 0}, [5]int{20, 40, 5, 4, 0}, 2},
		"odd heights":             {3, [5]int{40, 50, 4, 3, 0}, [5]int{40, 50, 4, 2, 0}, 2},
		"odd heights, above":      {2, [5]int{40, 20, 4, 4, 0}, [5]int{40, 20, 4, 5, 0}, 2},
		"odd heights aside":       {1, [5]int{50, 41, 4, 4, 0}, [5]int{50, 41, 4, 3, 0}, 2}, // 20 + 4, 20 + 2
		"odd widths aside, below": {3, [5]int{41, 50, 4, 4, 0}, [5]int{41, 50, 3, 4, 0}, 2},
		"one place, odd":          {1, [5]int{50, 40, 1, 5, 0}, [5]int{50, 40, 2, 4, 0}, 2}, // 17 + 2, 18
	} {
		for _, r := range []api.Rect{room(), rect(-50, -60, 100, 100), rect(-100, -100, 100, 100)} { // signs of places make no difference
			toward(t, name, board(a, x.b, x.c), r, 0, x.way, x.to)
		}
	}
	odd := [5]int{40, 40, 5, 3, 0} // its middle is 85 83
	for name, x := range map[string]struct {
		way  uint8
		b, c [5]int
		to   int
	}{
		"alike, right":      {1, [5]int{50, 40, 4, 3, 0}, [5]int{50, 40, 4, 3, 0}, 1},
		"nearer, right":     {1, [5]int{50, 40, 5, 3, 0}, [5]int{50, 40, 4, 3, 0}, 2}, // 20, 19
		"nearer, left":      {0, [5]int{30, 40, 4, 3, 0}, [5]int{30, 40, 5, 3, 0}, 2},
		"nearer, above":     {2, [5]int{40, 30, 5, 2, 0}, [5]int{40, 30, 5, 3, 0}, 2},
		"nearer, below":     {3, [5]int{40, 50, 5, 3, 0}, [5]int{40, 50, 5, 2, 0}, 2},
		"aside above it":    {1, [5]int{50, 40, 4, 1, 0}, [5]int{50, 40, 4, 4, 0}, 2}, // 19 + 4, 19 + 2
		"aside below it":    {1, [5]int{50, 40, 4, 5, 0}, [5]int{50, 40, 4, 2, 0}, 2},
		"aside, like sums":  {1, [5]int{50, 40, 4, 2, 0}, [5]int{50, 40, 4, 4, 0}, 1},
		"both ways, alike":  {3, [5]int{40, 50, 4, 2, 0}, [5]int{40, 50, 5, 4, 0}, 1}, // 19 + 2, 21
		"both ways by less": {3, [5]int{40, 50, 4, 3, 0}, [5]int{40, 50, 5, 4, 0}, 2}, // 20 + 2, 21
	} {
		toward(t, name+", from an odd one", board(odd, x.b, x.c), room(), 0, x.way, x.to)
	}
}

// P18.3: among many the nearest, wherever it stands in the order.
func TestNearestOfMany(t *testing.T) {
	for nearest := 1; nearest < 9; nearest++ {
		l := [][5]int{{0, 0, 2, 2, 0}}
		for i := 1; i < 9; i++ {
			x := 30 + 3*i
			if i == nearest {
				x = 20
			}
			l = append(l, [5]int{x, 0, 2, 2, i % 4})
		}
		toward(t, "many", board(l...), room(), 0, right, nearest)
	}
}

// P18.3: whole rectangles count, also where a part of them alone is shown.
func TestWholeRectangles(t *testing.T) {
	// 30 wide, but 3 of it shown: its middle is 42, its shown part's 28.5
	s := board([5]int{0, 0, 2, 2, 0}, [5]int{27, 0, 30, 2, 0}, [5]int{20, 8, 2, 2, 0})
	toward(t, "cut ones", s, rect(0, 0, 30, 30), 0, right, 2) // 82, 40 + 32
	// its upper edge is shown away, its lower edge is where it was
	scrolled := scroll(0, 5, columns(button(""), thing(1, 4), button(""), thing(1, 9)))
	if to, is, e := Toward(scrolled, rect(0, 0, 9, 3), 4, above); to != 0 || is || e != api.OK {
		t.Errorf("what is scrolled away: %d, %v, %d", to, is, e)
	}
	agree(t, scrolled, rect(0, 0, 9, 3))
	edges := board([5]int{10, 10, 9, 9, 0}, [5]int{0, 0, 12, 9, 0})
	toward(t, "one shown in places beyond the edge", edges, rect(0, 0, 5, 5), 0, left, -1)
	toward(t, "one shown in places beyond the edge", edges, rect(0, 0, 5, 5), 0, above, 1)
}

// P18.3: the node's own rectangle is taken, shown or not, with places or not.
func TestOwnRectangle(t *testing.T) {
	away := board([5]int{50, 50, 4, 4, 0}, [5]int{3, 3, 2, 2, 0}, [5]int{60, 50, 4, 4, 0})
	small := rect(0, 0, 10, 10)
	toward(t, "from one not shown", away, small, 0, left, 1)
	toward(t, "from one not shown", away, small, 0, above, 1)
	toward(t, "from one not shown", away, small, 0, right, -1)
	toward(t, "from one not shown", away, small, 0, below, -1)
	toward(t, "to one not shown", away, small, 1, right, -1)
	toward(t, "all shown", away, room(), 0, right, 2)
	toward(t, "nothing shown", away, api.Rect{}, 0, left, -1)

	empty := board([5]int{50, 50, 0, 0, 0}, [5]int{50, 50, 4, 4, 0}, [5]int{46, 46, 4, 4, 0}, [5]int{49, 49, 4, 4, 0})
	for way, want := range []int{2, 1, 2, 1} {
		toward(t, "from an empty one", empty, room(), 0, uint8(way), want)
	}
	flat := board([5]int{50, 50, 8, 0, 0}, [5]int{52, 50, 4, 4, 0}, [5]int{52, 46, 4, 4, 0})
	for way, want := range []int{-1, -1, 2, 1} {
		toward(t, "from one of no height", flat, room(), 0, uint8(way), want)
	}
	// it is where it was scrolled to: what holds it lies on its right then
	s := scroll(20, 0, box(button(""), thing(40, 1), button("")))
	if to, is, e := Toward(s, rect(0, 0, 10, 1), 2, right); to != 0 || !is || e != api.OK {
		t.Errorf("from one scrolled away: %d, %v, %d", to, is, e)
	}
	agree(t, s, rect(0, 0, 10, 1))
}

// P18.3, P18.6: alone, or with none that can be focused, nobody lies any way; never the node itself.
func TestTowardNobody(t *testing.T) {
	for way := range uint8(4) {
		for name, s := range map[string]api.Spec{
			"a Button":          button(""),
			"an empty thing":    wrapped(one(api.Canvas), focusing(0)),
			"beside others":     wrapped(box(label("ab"), thing(4, 4)), focusing(0)),
			"beside hidden":     wrapped(box(hidden(button("ab")), wrapped(button("c"), hide(api.Focuses)), wrapped(button("c"), half())), focusing(0)),
			"about what it has": wrapped(box(button(""), button("")), focusing(0)),
		} {
			for _, r := range []api.Rect{room(), {}, rect(5, 5, 0, 3), rect(-8, -8, 3, 0)} {
				if to, is, e := Toward(s, r, 0, way); to != 0 || is || e != api.OK {
					t.Errorf("Toward of %s by %d in %v: %d, %v, %d", name, way, r, to, is, e)
				}
				agree(t, s, r)
			}
		}
	}
	// the only ones that lie there can't be focused
	s := box(label("ab"), button("x"), ordered(button("c"), -1), wrapped(button("c"), hide(api.Focuses)), hidden(button("d")))
	for way := range uint8(4) {
		if to, is, e := Toward(s, room(), 2, way); to != 0 || is || e != api.OK {
			t.Errorf("by %d: %d, %v, %d", way, to, is, e)
		}
	}
}

// P18.3: in a Grid, and in trees deep within one another.
func TestTowardInTrees(t *testing.T) {
	nine := grids(3, button(""), button(""), button(""), button(""), button(""), button(""), button(""), button(""), button(""))
	r := rect(-4, -4, 30, 9)
	for node := 1; node <= 9; node++ {
		x, y := (node-1)%3, (node-1)/3
		for way, d := range [][2]int{{-1, 0}, {1, 0}, {0, -1}, {0, 1}} {
			x, y := x+d[0], y+d[1]
			want, is := 1+x+3*y, x >= 0 && x < 3 && y >= 0 && y < 3
			if !is {
				want = 0
			}
			if to, ok, e := Toward(nine, r, node, uint8(way)); to != want || ok != is || e != api.OK {
				t.Errorf("Toward %d by %d: %d, %v, %d; %d", node, way, to, ok, e, want)
			}
		}
	}
	deep := box(columns(button(""), stack(button(""), button(""))), scroll(0, 0, columns(button(""), button(""))))
	agree(t, deep, rect(0, 0, 30, 9))
}
