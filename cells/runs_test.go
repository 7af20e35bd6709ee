package cells

import (
	"math"
	"slices"
	"strings"
	"testing"

	"casement/api"
)

// of is a screen of one row a word, all of them as long, of plain runes.
func of(rows ...string) api.Screen {
	s := api.Screen{Size: size(len(rows[0]), len(rows))}
	for _, r := range strings.Join(rows, "") {
		s.Cells = append(s.Cells, plain(r))
	}
	return s
}

// word is a run of plain runes.
func word(x, y int, text string) api.Run {
	return run(x, y, of(text).Cells...)
}

// P15.4: runs are as long as can be, row by row.
func TestRuns(t *testing.T) {
	for i, x := range []struct {
		a, b api.Screen
		want []api.Run
	}{
		{of("abcd"), of("abcd"), nil},
		{of("abcd"), of("xbcd"), []api.Run{word(0, 0, "x")}},
		{of("abcd"), of("abcx"), []api.Run{word(3, 0, "x")}},
		{of("abcd"), of("axyd"), []api.Run{word(1, 0, "xy")}},
		{of("abcd"), of("wxyz"), []api.Run{word(0, 0, "wxyz")}},
		{of("abcd"), of("xbyd"), []api.Run{word(0, 0, "x"), word(2, 0, "y")}},
		{of("abcd"), of("xbcy"), []api.Run{word(0, 0, "x"), word(3, 0, "y")}},
		{of("abcd"), of("axcy"), []api.Run{word(1, 0, "x"), word(3, 0, "y")}},
		{of("ab", "cd"), of("ax", "yd"), []api.Run{word(1, 0, "x"), word(0, 1, "y")}}, // no run goes from row to row
		{of("ab", "cd"), of("wx", "yz"), []api.Run{word(0, 0, "wx"), word(0, 1, "yz")}},
		{of("a", "b", "c"), of("a", "b", "x"), []api.Run{word(0, 2, "x")}},
		{screen(0, 0), screen(0, 0), nil},
		{screen(0, 4), screen(0, 4), nil},
		{screen(4, 0), screen(4, 0), nil},
		{screen(1, 1, plain('a')), screen(1, 1, cell('a', glass, none)), []api.Run{run(0, 0, cell('a', glass, none))}},
		{screen(1, 1, plain('a')), screen(1, 1, cell('a', none, thin)), []api.Run{run(0, 0, cell('a', none, thin))}},
		{screen(1, 1, left(0x4e00, red, red)), screen(1, 1, right(0x4e00, red, red)), []api.Run{run(0, 0, right(0x4e00, red, red))}},
		{screen(2, 1, plain('a'), plain('a')), screen(2, 1, left(0x4e00, none, none), right(0x4e00, none, none)), []api.Run{run(0, 0, left(0x4e00, none, none), right(0x4e00, none, none))}},
	} {
		l, e := Runs(x.a, x.b)
		if !alikeRuns(l, x.want) || e != api.OK {
			t.Errorf("Runs %d: %v, %d", i, l, e)
		}
		if got, e := Put(x.a, l); !alike(got, x.b) || e != api.OK {
			t.Errorf("Put %d: %v, %d", i, got, e)
		}
	}
}

// P15.4: screens of unlike sizes, be it with as many cells.
func TestRunsOfUnlikeSizes(t *testing.T) {
	l := []api.Screen{of("abcd", "efgh"), of("ab", "cd", "ef", "gh"), of("abcdefgh"), of("abcd"), of("abc", "efg"), screen(0, 0), screen(0, 4), screen(4, 0)}
	for i, a := range l {
		for j, b := range l {
			want := api.ErrCell
			if i == j {
				want = api.OK
			}
			if got, e := Runs(a, b); e != want || len(got) > 0 {
				t.Errorf("Runs of %v and %v: %v, %d", a.Size, b.Size, got, e)
			}
		}
	}
}

// P15.4: runs are put one behind the other: of those that lie over one another the last one holds.
func TestPut(t *testing.T) {
	s := of("abcd", "efgh")
	for i, x := range []struct {
		l    []api.Run
		want api.Screen
	}{
		{nil, s},
		{[]api.Run{word(0, 0, "x")}, of("xbcd", "efgh")},
		{[]api.Run{word(3, 1, "x")}, of("abcd", "efgx")},
		{[]api.Run{word(0, 1, "wxyz")}, of("abcd", "wxyz")},
		{[]api.Run{word(1, 0, "xyz")}, of("axyz", "efgh")}, // ends with the row
		{[]api.Run{word(0, 0, "xxx"), word(1, 0, "y")}, of("xyxd", "efgh")},
		{[]api.Run{word(1, 0, "y"), word(0, 0, "xxx")}, of("xxxd", "efgh")},
		{[]api.Run{word(0, 0, "xx"), word(1, 0, "yy"), word(0, 0, "z")}, of("zyyd", "efgh")},
		{[]api.Run{word(2, 1, "x"), word(0, 0, "y"), word(2, 1, "z")}, of("ybcd", "efzh")},
	} {
		if got, e := Put(s, x.l); !alike(got, x.want) || e != api.OK {
			t.Errorf("Put %d: %v, %d", i, got, e)
		}
	}
	halves := run(1, 0, right(0x4e00, red, none), left(0x1f300, none, thin))
	if got, e := Put(s, []api.Run{halves}); !slices.Equal(got.Cells[1:3], halves.Cells) || e != api.OK {
		t.Errorf("Put of halves: %v, %d", got, e)
	}
}

// wrongRuns may not be for a screen of 4 by 2; those whose e is OK may be for themselves.
func wrongRuns() []asked[api.Run] {
	l := []asked[api.Run]{
		{run(4, 0, plain('a')), api.OK}, {run(0, 2, plain('a')), api.OK}, {run(4, 2, plain('a')), api.OK}, {run(side-1, side-1, plain('a')), api.OK},
		{word(3, 0, "ab"), api.OK}, {word(0, 1, "abcde"), api.OK}, {word(1, 0, "abcd"), api.OK}, {word(side-1, 0, "ab"), api.OK},
		{api.Run{}, api.ErrCell}, {run(0, 0), api.ErrCell}, {run(3, 1, []api.Cell{}...), api.ErrCell}, {run(4, 0), api.ErrCell},
		{run(-1, 0, plain('a')), api.ErrCell}, {run(0, -1, plain('a')), api.ErrCell}, {run(-1, 1, plain('a')), api.ErrCell}, {word(-1, 0, "ab"), api.ErrCell},
		{run(side, 0, plain('a')), api.ErrCell}, {run(0, side, plain('a')), api.ErrCell},
		{run(math.MaxInt, 0, plain('a')), api.ErrCell}, {run(0, math.MaxInt, plain('a')), api.ErrCell}, {run(math.MinInt, 0, plain('a')), api.ErrCell}, {run(0, math.MinInt, plain('a')), api.ErrCell},
	}
	for _, c := range oneCell() {
		if c.e != api.OK {
			l = append(l, asked[api.Run]{run(0, 0, c.value), c.e}, asked[api.Run]{run(1, 1, plain('a'), plain('b'), c.value), c.e}, asked[api.Run]{run(1, 1, c.value, plain('b')), c.e})
		}
	}
	return l
}

// P15.4, P15.5: a run that may not be, alone and behind and ahead of others.
func TestWrongRuns(t *testing.T) {
	s := of("abcd", "efgh")
	ok := word(0, 0, "ab")
	for _, x := range wrongRuns() {
		for _, l := range [][]api.Run{{x.value}, {ok, x.value}, {x.value, ok}, {ok, ok, x.value, ok}} {
			if got, e := Put(s, l); e != api.ErrCell || !isZero(got) {
				t.Errorf("Put of %v: %v, %d", l, got, e)
			}
			if got, e := Escapes(l); e != x.e || e != api.OK && got != "" || e == api.OK && got == "" {
				t.Errorf("Escapes of %v: %q, %d", l, got, e)
			}
		}
	}
	for _, s := range []api.Screen{screen(0, 0), screen(0, 3), screen(3, 0)} {
		if _, e := Put(s, []api.Run{word(0, 0, "a")}); e != api.ErrCell {
			t.Errorf("Put into no cells: %d", e)
		}
		if got, e := Put(s, nil); !alike(got, s) || e != api.OK {
			t.Errorf("Put of none: %v, %d", got, e)
		}
	}
}

// P15.4, P15.5: each cell that may be, in runs.
func TestRunsOfEachCell(t *testing.T) {
	for _, x := range oneCell() {
		if x.e != api.OK {
			continue
		}
		got, e := Put(of("abcd"), []api.Run{run(2, 0, x.value)})
		if want := of("abcd"); e != api.OK || got.Cells[2] != x.value || got.Cells[1] != want.Cells[1] || got.Cells[3] != want.Cells[3] {
			t.Errorf("Put of %v: %v, %d", x.value, got, e)
		}
		escapes, e := Escapes([]api.Run{run(2, 0, x.value)})
		back, at, e2 := Read(of("abcd"), escapes)
		if e != api.OK || e2 != api.OK || at != 0 || !alike(back, got) {
			t.Errorf("Escapes of %v: %q, %d; %v, %d", x.value, escapes, e, back, e2)
		}
	}
}

// P15.5: the text of runs.
func TestEscapes(t *testing.T) {
	const wide = 0x4e00
	l, r := left(wide, none, none), right(wide, none, none)
	inRed := func(c api.Cell) api.Cell { c.Colour = red; return c }
	onRed := func(c api.Cell) api.Cell { c.Back = red; return c }
	const redRune, redBack = "\x1b[38;2;255;0;0;255m", "\x1b[48;2;255;0;0;255m"
	const noRune, noBack = "\x1b[38;2;0;0;0;0m", "\x1b[48;2;0;0;0;0m"
	for i, x := range []struct {
		l    []api.Run
		want string
	}{
		{nil, ""},
		{[]api.Run{}, ""},
		{[]api.Run{word(0, 0, "a")}, "\x1b[1;1Ha"},
		{[]api.Run{word(11, 99, "ab")}, "\x1b[100;12Hab"},
		{[]api.Run{word(side-1, side-1, "ab")}, "\x1b[16384;16384Hab"},
		{[]api.Run{word(0, 0, "a"), word(1, 0, "b")}, "\x1b[1;1Ha\x1b[1;2Hb"}, // each run is told, be it right behind the other
		{[]api.Run{word(0, 1, "a"), word(1, 0, "b")}, "\x1b[2;1Ha\x1b[1;2Hb"}, // in the order of the list
		// Colours: each is told where it is another one than that told last, in another run too.
		{[]api.Run{run(0, 0, cell('a', red, none))}, "\x1b[1;1H" + redRune + "a"},
		{[]api.Run{run(0, 0, cell('a', none, red))}, "\x1b[1;1H" + redBack + "a"},
		{[]api.Run{run(0, 0, cell('a', red, red))}, "\x1b[1;1H" + redRune + redBack + "a"},
		{[]api.Run{run(0, 0, cell('a', api.Colour{R: 1, G: 20, B: 255, A: 0}, api.Colour{A: 9}))}, "\x1b[1;1H\x1b[38;2;1;20;255;0m\x1b[48;2;0;0;0;9ma"},
		{[]api.Run{run(0, 0, cell('a', red, none), cell('b', red, none), plain('c'), plain('d'), cell('e', red, none))}, "\x1b[1;1H" + redRune + "ab" + noRune + "cd" + redRune + "e"},
		{[]api.Run{run(0, 0, cell('a', red, none)), run(0, 1, cell('b', red, none))}, "\x1b[1;1H" + redRune + "a\x1b[2;1Hb"},
		{[]api.Run{run(0, 0, cell('a', none, red)), run(0, 1, plain('b'))}, "\x1b[1;1H" + redBack + "a\x1b[2;1H" + noBack + "b"},
		{[]api.Run{run(0, 0, cell('a', red, none), cell('b', none, red))}, "\x1b[1;1H" + redRune + "a" + noRune + redBack + "b"},
		// Halves.
		{[]api.Run{run(0, 0, l, r)}, "\x1b[1;1H\u4e00"},
		{[]api.Run{run(0, 0, l)}, "\x1b[1;1H\x0e\u4e00"},
		{[]api.Run{run(0, 0, r)}, "\x1b[1;1H\x0f\u4e00"},
		{[]api.Run{run(0, 0, l, l)}, "\x1b[1;1H\x0e\u4e00\x0e\u4e00"},
		{[]api.Run{run(0, 0, r, r)}, "\x1b[1;1H\x0f\u4e00\x0f\u4e00"},
		{[]api.Run{run(0, 0, r, l)}, "\x1b[1;1H\x0f\u4e00\x0e\u4e00"},
		{[]api.Run{run(0, 0, l, l, r)}, "\x1b[1;1H\x0e\u4e00\u4e00"},
		{[]api.Run{run(0, 0, l, r, r)}, "\x1b[1;1H\u4e00\x0f\u4e00"},
		{[]api.Run{run(0, 0, l, r, l, r)}, "\x1b[1;1H\u4e00\u4e00"},
		{[]api.Run{run(0, 0, l, plain('x'), r)}, "\x1b[1;1H\x0e\u4e00x\x0f\u4e00"},
		{[]api.Run{run(0, 0, l), run(1, 0, r)}, "\x1b[1;1H\x0e\u4e00\x1b[1;2H\x0f\u4e00"}, // right ahead, but not in the run
		{[]api.Run{run(0, 0, l, right(0x4e01, none, none))}, "\x1b[1;1H\x0e\u4e00\x0f\u4e01"},
		{[]api.Run{run(0, 0, inRed(l), inRed(r))}, "\x1b[1;1H" + redRune + "\u4e00"},
		{[]api.Run{run(0, 0, onRed(l), onRed(r), plain('x'))}, "\x1b[1;1H" + redBack + "\u4e00" + noBack + "x"},
		{[]api.Run{run(0, 0, inRed(l), r)}, "\x1b[1;1H" + redRune + "\x0e\u4e00" + noRune + "\x0f\u4e00"},
		{[]api.Run{run(0, 0, l, inRed(r))}, "\x1b[1;1H\x0e\u4e00" + redRune + "\x0f\u4e00"},
		{[]api.Run{run(0, 0, onRed(l), r)}, "\x1b[1;1H" + redBack + "\x0e\u4e00" + noBack + "\x0f\u4e00"},
		{[]api.Run{run(0, 0, l, onRed(r))}, "\x1b[1;1H\x0e\u4e00" + redBack + "\x0f\u4e00"},
		{[]api.Run{run(0, 0, plain(0xe9), plain(0xfffd), plain(0x10400))}, "\x1b[1;1H\u00e9\ufffd\U00010400"},
	} {
		got, e := Escapes(x.l)
		if got != x.want || e != api.OK {
			t.Errorf("Escapes %d: %q, %d; %q", i, got, e, x.want)
		}
	}
}
