package cells

import (
	"regexp"
	"strconv"
	"strings"
	"unicode/utf8"

	"casement/api"
	"casement/colour"
	"casement/runes"
)

// The models go by the chapter's words, place by place and byte by byte; of other layers they call what the words name: a rune's Width, a text's pieces, Over.

func modelCell(c api.Cell) bool {
	if c.Rune < 0 || c.Rune > 0x10ffff || c.Rune >= 0xd800 && c.Rune <= 0xdfff {
		return false
	}
	return runes.Width(c.Rune) == 1 && !c.Wide && !c.Tail || runes.Width(c.Rune) == 2 && (c.Wide && !c.Tail || !c.Wide && c.Tail)
}

func modelScreen(s api.Screen) bool {
	for _, n := range []int{s.Size.W, s.Size.H} {
		if n < 0 || n > 16384 {
			return false
		}
	}
	if s.Size.W*s.Size.H > 262144 || len(s.Cells) != s.Size.W*s.Size.H {
		return false
	}
	for _, c := range s.Cells {
		if !modelCell(c) {
			return false
		}
	}
	return true
}

func modelHas(r api.Rect, p api.Point) bool {
	return p.X >= r.At.X && p.X <= r.At.X+r.Size.W-1 && p.Y >= r.At.Y && p.Y <= r.At.Y+r.Size.H-1
}

// modelDraw makes each cell by itself.
func modelDraw(s api.Screen, l []api.Stroke) api.Screen {
	out := api.Screen{Size: s.Size, Cells: make([]api.Cell, len(s.Cells))}
	for i, c := range s.Cells {
		p := point(i%s.Size.W, i/s.Size.W)
		for j, stroke := range l {
			if stroke.Kind <= api.Write && modelShows(l, j, p) {
				c = modelStroke(c, stroke, p)
			}
		}
		out.Cells[i] = c
	}
	return out
}

// modelShows tells whether a stroke's Rect and all clips that are open, found from there back, have a place.
func modelShows(l []api.Stroke, at int, p api.Point) bool {
	closed := 0
	for i := at - 1; i >= 0; i-- {
		switch {
		case l[i].Kind == api.Open:
			closed++
		case l[i].Kind == api.Clip && closed > 0:
			closed--
		case l[i].Kind == api.Clip && !modelHas(l[i].Rect, p):
			return false
		}
	}
	return modelHas(l[at].Rect, p)
}

// modelStroke is what a stroke makes of a cell at a place at which it shows.
func modelStroke(c api.Cell, s api.Stroke, p api.Point) api.Cell {
	switch {
	case s.Kind == api.Fill && s.Colour.A == 255:
		return api.Cell{Rune: ' ', Back: s.Colour}
	case s.Kind == api.Fill && s.Colour.A > 0:
		return api.Cell{Rune: c.Rune, Colour: colour.Over(s.Colour, c.Colour), Back: colour.Over(s.Colour, c.Back), Wide: c.Wide, Tail: c.Tail}
	case s.Kind == api.Frame && s.Colour.A > 0:
		if r := modelBox(s.Rect, p); r != 0 {
			return api.Cell{Rune: r, Colour: colour.Over(s.Colour, c.Back), Back: c.Back}
		}
	case s.Kind == api.Write:
		if half, ok := modelPiece(s, p); ok {
			half.Back = colour.Over(s.Back, c.Back)
			half.Colour = colour.Over(s.Colour, half.Back)
			return half
		}
	}
	return c
}

// modelBox is the rune of a border; 0 inside.
func modelBox(r api.Rect, p api.Point) rune {
	first, last := r.At, point(r.At.X+r.Size.W-1, r.At.Y+r.Size.H-1)
	switch {
	case r.Size == size(1, 1):
		return 0x25a1
	case r.Size.W == 1:
		return 0x2502
	case r.Size.H == 1:
		return 0x2500
	case p == first:
		return 0x250c
	case p == point(last.X, first.Y):
		return 0x2510
	case p == point(first.X, last.Y):
		return 0x2514
	case p == last:
		return 0x2518
	case p.Y == first.Y || p.Y == last.Y:
		return 0x2500
	case p.X == first.X || p.X == last.X:
		return 0x2502
	}
	return 0
}

// modelPiece is the piece, or its half, that lies at a place of a Write.
func modelPiece(s api.Stroke, p api.Point) (api.Cell, bool) {
	lines := strings.Split(s.Text, "\n")
	n := p.Y - s.Rect.At.Y
	if n < 0 || n >= len(lines) {
		return api.Cell{}, false
	}
	line := lines[n]
	x := s.Rect.At.X
	for at := 0; at < len(line); {
		end, _ := runes.Next(line, at)
		wide, _ := runes.Cells(line[at:end])
		first, _ := utf8.DecodeRuneInString(line[at:end])
		if p.X >= x && p.X < x+wide {
			return api.Cell{Rune: first, Wide: wide == 2 && p.X == x, Tail: wide == 2 && p.X == x+1}, true
		}
		x += wide
		at = end
	}
	return api.Cell{}, false
}

func modelText(s api.Screen) string {
	text := ""
	for y := range s.Size.H {
		for x := range s.Size.W {
			c := s.Cells[y*s.Size.W+x]
			hasRight := x+1 < s.Size.W && s.Cells[y*s.Size.W+x+1].Tail && s.Cells[y*s.Size.W+x+1].Rune == c.Rune
			hasLeft := x > 0 && s.Cells[y*s.Size.W+x-1].Wide && s.Cells[y*s.Size.W+x-1].Rune == c.Rune
			switch {
			case c.Wide && !hasRight, c.Tail && !hasLeft:
				text += " "
			case c.Tail:
			default:
				text += string(c.Rune)
			}
		}
		text += "\n"
	}
	return text
}

// modelRuns puts a cell that is unlike behind the run that ends right ahead of it in the row, or begins one.
func modelRuns(a, b api.Screen) []api.Run {
	var l []api.Run
	for i := range a.Cells {
		if a.Cells[i] == b.Cells[i] {
			continue
		}
		p := point(i%a.Size.W, i/a.Size.W)
		n := len(l)
		if n > 0 && l[n-1].At.Y == p.Y && l[n-1].At.X+len(l[n-1].Cells) == p.X {
			l[n-1].Cells = append(l[n-1].Cells, b.Cells[i])
		} else {
			l = append(l, run(p.X, p.Y, b.Cells[i]))
		}
	}
	return l
}

func modelColour(of string, c api.Colour) string {
	text := "\x1b[" + of + ";2"
	for _, n := range []uint8{c.R, c.G, c.B, c.A} {
		text += ";" + strconv.Itoa(int(n))
	}
	return text + "m"
}

func modelEscapes(l []api.Run) string {
	text := ""
	var front, behind api.Colour
	for _, r := range l {
		text += "\x1b[" + strconv.Itoa(r.At.Y+1) + ";" + strconv.Itoa(r.At.X+1) + "H"
		for i, c := range r.Cells {
			halfOf := func(j int) bool {
				if j < 0 || j >= len(r.Cells) {
					return false
				}
				o := r.Cells[j]
				return o.Rune == c.Rune && o.Colour == c.Colour && o.Back == c.Back && o.Wide == c.Tail && o.Tail == c.Wide
			}
			if c.Tail && halfOf(i-1) {
				continue
			}
			if c.Colour != front {
				text += modelColour("38", c.Colour)
			}
			if c.Back != behind {
				text += modelColour("48", c.Back)
			}
			front, behind = c.Colour, c.Back
			switch {
			case c.Wide && !halfOf(i+1):
				text += "\x0e"
			case c.Tail:
				text += "\x0f"
			}
			text += string(c.Rune)
		}
	}
	return text
}

var (
	goForm     = regexp.MustCompile(`^\x1b\[([1-9][0-9]{0,4});([1-9][0-9]{0,4})H`)
	colourForm = regexp.MustCompile(`^\x1b\[(38|48);2;(0|[1-9][0-9]{0,2});(0|[1-9][0-9]{0,2});(0|[1-9][0-9]{0,2});(0|[1-9][0-9]{0,2})m`)
)

func modelNumbers(l []string, most int) ([]int, bool) {
	var all []int
	for _, x := range l {
		n, err := strconv.Atoi(x)
		if err != nil || n > most {
			return nil, false
		}
		all = append(all, n)
	}
	return all, true
}

// modelRead is the screen and 0, or nothing and the number of the byte at which something is wrong.
func modelRead(s api.Screen, text string) (api.Screen, int, bool) {
	out := api.Screen{Size: s.Size, Cells: append([]api.Cell{}, s.Cells...)}
	var p api.Point
	var front, behind api.Colour
	for at := 0; at < len(text); {
		rest := text[at:]
		if m := goForm.FindStringSubmatch(rest); m != nil {
			n, ok := modelNumbers(m[1:], 16384)
			if !ok {
				return api.Screen{}, at, false
			}
			p = point(n[1]-1, n[0]-1)
			at += len(m[0])
			continue
		}
		if m := colourForm.FindStringSubmatch(rest); m != nil {
			n, ok := modelNumbers(m[2:], 255)
			if !ok {
				return api.Screen{}, at, false
			}
			c := api.Colour{R: uint8(n[0]), G: uint8(n[1]), B: uint8(n[2]), A: uint8(n[3])}
			if m[1] == "38" {
				front = c
			} else {
				behind = c
			}
			at += len(m[0])
			continue
		}
		ahead := ""
		if rest[0] == 14 || rest[0] == 15 {
			ahead, rest = rest[:1], rest[1:]
		}
		r, n := utf8.DecodeRuneInString(rest)
		wide := runes.Width(r)
		if rest == "" || !utf8.ValidString(rest[:n]) || wide == 0 || wide == 1 && ahead != "" {
			return api.Screen{}, at, false
		}
		put := []api.Cell{{Rune: r, Colour: front, Back: behind}}
		switch {
		case ahead == "\x0e":
			put[0].Wide = true
		case ahead == "\x0f":
			put[0].Tail = true
		case wide == 2:
			put = append(put, put[0])
			put[0].Wide, put[1].Tail = true, true
		}
		for _, c := range put {
			if p.X >= s.Size.W || p.Y >= s.Size.H {
				return api.Screen{}, at, false
			}
			out.Cells[p.Y*s.Size.W+p.X] = c
			p.X++
		}
		at += len(ahead) + n
	}
	return out, 0, true
}
