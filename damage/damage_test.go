package damage

import (
	"fmt"
	"slices"
	"testing"

	"casement/api"
	"casement/cells"
)

const side = api.MaxSide

var (
	none  = api.Colour{}
	red   = api.Colour{R: 255, A: 255}
	blue  = api.Colour{B: 255, A: 255}
	white = api.Colour{R: 255, G: 255, B: 255, A: 255}
	thin  = api.Colour{R: 255, A: 128}
)

func point(x, y int) api.Point { return api.Point{X: x, Y: y} }

func size(w, h int) api.Size { return api.Size{W: w, H: h} }

func rect(x, y, w, h int) api.Rect { return api.Rect{At: point(x, y), Size: size(w, h)} }

func rects(l ...api.Rect) []api.Rect { return l }

func of(l ...api.Stroke) []api.Stroke { return l }

func nodes(l ...int) []int { return l }

func fill(x, y, w, h int) api.Stroke {
	return api.Stroke{Kind: api.Fill, Rect: rect(x, y, w, h), Colour: red}
}

func frame(x, y, w, h int) api.Stroke {
	return api.Stroke{Kind: api.Frame, Rect: rect(x, y, w, h), Colour: white}
}

func write(x, y, w, h int, text string) api.Stroke {
	return api.Stroke{Kind: api.Write, Rect: rect(x, y, w, h), Colour: white, Text: text}
}

func clip(x, y, w, h int) api.Stroke {
	return api.Stroke{Kind: api.Clip, Rect: rect(x, y, w, h)}
}

func open() api.Stroke { return api.Stroke{Kind: api.Open} }

func in(c api.Colour, s api.Stroke) api.Stroke {
	s.Colour = c
	return s
}

func by(node int, s api.Stroke) api.Stroke {
	s.Node = node
	return s
}

// within is a clip about strokes.
func within(r api.Rect, l ...api.Stroke) []api.Stroke {
	return slices.Concat(of(api.Stroke{Kind: api.Clip, Rect: r}), l, of(open()))
}

func blanks(t *testing.T, s api.Size) api.Screen {
	t.Helper()
	blank, e := cells.Blank(s, none)
	if e != api.OK {
		t.Fatal(e)
	}
	return blank
}

// screenOf is what a list makes of bare cells.
func screenOf(t *testing.T, s api.Size, l ...api.Stroke) api.Screen {
	t.Helper()
	made, e := cells.Draw(blanks(t, s), l)
	if e != api.OK {
		t.Fatalf("%s: %d", brief(l), e)
	}
	return made
}

func alike(a, b api.Screen) bool {
	return a.Size == b.Size && slices.Equal(a.Cells, b.Cells)
}

func isZero(s api.Screen) bool {
	return s.Size == api.Size{} && s.Cells == nil
}

// brief tells a list or a screen, so far as a message can hold it.
func brief[T any](l []T) string {
	if len(l) > 40 {
		return fmt.Sprint(len(l), " of them, from ", l[0], " to ", l[len(l)-1])
	}
	return fmt.Sprint(l)
}

func briefScreen(s api.Screen) string {
	return fmt.Sprint(s.Size, brief(s.Cells))
}

// differ asks Of, either way round.
func differ(t *testing.T, a, b []api.Stroke, want ...api.Rect) {
	t.Helper()
	if got, e := Of(a, b); !slices.Equal(got, want) || e != api.OK {
		t.Errorf("Of(%s, %s): %s, %d; %s", brief(a), brief(b), brief(got), e, brief(want))
	}
	if got, e := Of(b, a); !slices.Equal(got, want) || e != api.OK {
		t.Errorf("Of(%s, %s): %s, %d; %s", brief(b), brief(a), brief(got), e, brief(want))
	}
}

// moved asks Nodes, either way round.
func moved(t *testing.T, a, b []api.Stroke, want ...int) {
	t.Helper()
	if got, e := Nodes(a, b); !slices.Equal(got, want) || e != api.OK {
		t.Errorf("Nodes(%s, %s): %s, %d; %s", brief(a), brief(b), brief(got), e, brief(want))
	}
	if got, e := Nodes(b, a); !slices.Equal(got, want) || e != api.OK {
		t.Errorf("Nodes(%s, %s): %s, %d; %s", brief(b), brief(a), brief(got), e, brief(want))
	}
}

func mended(t *testing.T, s api.Screen, l []api.Stroke, r []api.Rect, want api.Screen) {
	t.Helper()
	if got, e := Mend(s, l, r); !alike(got, want) || e != api.OK {
		t.Errorf("Mend(%s, %s, %s): %s, %d; %s", briefScreen(s), brief(l), brief(r), briefScreen(got), e, briefScreen(want))
	}
}

// unlike asks Changed, either way round.
func unlike(t *testing.T, a, b api.Screen, want ...api.Rect) {
	t.Helper()
	if got, e := Changed(a, b); !slices.Equal(got, want) || e != api.OK {
		t.Errorf("Changed(%s, %s): %s, %d; %s", briefScreen(a), briefScreen(b), brief(got), e, brief(want))
	}
	if got, e := Changed(b, a); !slices.Equal(got, want) || e != api.OK {
		t.Errorf("Changed(%s, %s): %s, %d; %s", briefScreen(b), briefScreen(a), brief(got), e, brief(want))
	}
}

// The chapter's names.
func chapter() (f, g, x, c, o api.Stroke) {
	return by(1, fill(0, 0, 4, 4)), by(2, in(blue, fill(1, 1, 1, 1))), by(3, write(2, 0, 1, 1, "x")), clip(0, 0, 2, 2), open()
}

func TestExamples(t *testing.T) {
	f, g, x, c, o := chapter()
	differ(t, of(f, g), of(f, g))
	differ(t, of(f), of(f, g), rect(1, 1, 1, 1))
	differ(t, of(f, g, x), of(f, x), rect(1, 1, 1, 1))
	differ(t, of(f, g), of(g, f), rect(0, 0, 4, 4))
	differ(t, of(f), of(c, f, o), rect(0, 0, 4, 4))
	differ(t, of(c, f, o), of(c, f, o, g), rect(1, 1, 1, 1))
	differ(t, of(f), of(f, x), rect(2, 0, 1, 1))
	differ(t, of(frame(0, 0, 3, 3)), nil, rect(0, 0, 3, 1), rect(0, 1, 1, 1), rect(2, 1, 1, 1), rect(0, 2, 3, 1))
	if got, e := Of(of(f, o), of(f)); got != nil || e != api.ErrClip {
		t.Errorf("Of: %v, %d", got, e)
	}
	moved(t, of(f, g), of(f), 2)
	moved(t, of(f, g), of(g, f))
	moved(t, of(f, f), of(f), 1)
	four := size(4, 4)
	old, now := screenOf(t, four, f), screenOf(t, four, f, g)
	damage, _ := Of(of(f), of(f, g))
	mended(t, old, of(f, g), damage, now)
	unlike(t, old, now, rect(1, 1, 1, 1))
	if got, e := Changed(blanks(t, size(1, 1)), blanks(t, size(2, 1))); got != nil || e != api.ErrCell {
		t.Errorf("Changed: %v, %d", got, e)
	}
	if got, e := Mend(old, of(f), make([]api.Rect, 1025)); !isZero(got) || e != api.ErrMany {
		t.Errorf("Mend: %v, %d", got, e)
	}
}
