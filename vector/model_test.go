package vector

import (
	"fmt"
	"regexp"
	"strconv"
	"strings"

	"casement/api"
)

// The models go by the chapter's words, with a line of code for each piece, and call no other layer.

func modelStands(b byte) bool {
	return b > 32 && b < 127 && !strings.Contains("&<>\"", string(rune(b)))
}

func modelEscape(s string) string {
	var text strings.Builder
	for _, b := range []byte(s) {
		if modelStands(b) {
			text.WriteByte(b)
		} else {
			fmt.Fprintf(&text, "&%02x;", b)
		}
	}
	return text.String()
}

var modelMarked = regexp.MustCompile(`^&[0-9a-f][0-9a-f];`)

// modelPlain answers the text, or the place.
func modelPlain(s string) (string, int, bool) {
	var text []byte
	for at := 0; at < len(s); {
		if modelStands(s[at]) {
			text = append(text, s[at])
			at++
			continue
		}
		piece := modelMarked.FindString(s[at:])
		if piece == "" {
			return "", at, false
		}
		n, _ := strconv.ParseUint(piece[1:3], 16, 8)
		if modelStands(byte(n)) {
			return "", at, false
		}
		text = append(text, byte(n))
		at += len(piece)
	}
	return string(text), 0, true
}

func modelColour(c api.Colour) string {
	text := fmt.Sprintf("%02x%02x%02x", c.R, c.G, c.B)
	switch {
	case c.A != 255:
		return fmt.Sprintf("#%s%02x", text, c.A)
	case text[0] == text[1] && text[2] == text[3] && text[4] == text[5]:
		return "#" + text[0:1] + text[2:3] + text[4:5]
	}
	return "#" + text
}

func modelLine(s api.Stroke) string {
	r := fmt.Sprintf("x=\"%d\" y=\"%d\" w=\"%d\" h=\"%d\"", s.Rect.At.X, s.Rect.At.Y, s.Rect.Size.W, s.Rect.Size.H)
	c, back := modelColour(s.Colour), modelColour(s.Back)
	switch s.Kind {
	case api.Fill:
		return fmt.Sprintf("<fill %s c=\"%s\" n=\"%d\"/>\n", r, c, s.Node)
	case api.Frame:
		return fmt.Sprintf("<frame %s c=\"%s\" n=\"%d\"/>\n", r, c, s.Node)
	case api.Write:
		return fmt.Sprintf("<write %s c=\"%s\" b=\"%s\" n=\"%d\">%s</write>\n", r, c, back, s.Node, modelEscape(s.Text))
	case api.Clip:
		return fmt.Sprintf("<clip %s n=\"%d\">\n", r, s.Node)
	}
	return fmt.Sprintf("</clip n=\"%d\">\n", s.Node)
}

// modelText is the text of any list and size, how long it may be.
func modelText(l []api.Stroke, s api.Size) string {
	var text strings.Builder
	fmt.Fprintf(&text, "<shapes w=\"%d\" h=\"%d\">\n", s.W, s.H)
	for _, x := range l {
		text.WriteString(modelLine(x))
	}
	return text.String() + "</shapes>\n"
}

// modelPlace is the place of a wrong piece, with which the model's reader panics.
type modelPlace int

type modelReader struct {
	s  string
	at int
}

// fixed takes the one of some fixed texts that stands here.
func (m *modelReader) fixed(l ...string) string {
	for _, x := range l {
		if len(m.s)-m.at >= len(x) && m.s[m.at:m.at+len(x)] == x {
			m.at += len(x)
			return x
		}
	}
	panic(modelPlace(m.at))
}

var (
	modelNumberRun = regexp.MustCompile(`^-?[0-9]*`)
	modelNumber    = regexp.MustCompile(`^(0|-?[1-9][0-9]{0,8})$`)
	modelColourRun = regexp.MustCompile(`^[#0-9a-fA-F]*`)
	modelColours   = regexp.MustCompile(`^#([0-9a-f]{3}|[0-9a-f]{6}|[0-9a-f]{8})$`)
)

func (m *modelReader) number() int {
	piece := modelNumberRun.FindString(m.s[m.at:])
	if !modelNumber.MatchString(piece) {
		panic(modelPlace(m.at))
	}
	m.at += len(piece)
	n, _ := strconv.Atoi(piece)
	return n
}

func (m *modelReader) colour() api.Colour {
	piece := modelColourRun.FindString(m.s[m.at:])
	if !modelColours.MatchString(piece) {
		panic(modelPlace(m.at))
	}
	x := piece[1:]
	switch len(x) {
	case 3:
		x = x[0:1] + x[0:1] + x[1:2] + x[1:2] + x[2:3] + x[2:3] + "ff"
	case 6:
		x += "ff"
	}
	n, _ := strconv.ParseUint(x, 16, 32)
	c := api.Colour{R: uint8(n >> 24), G: uint8(n >> 16), B: uint8(n >> 8), A: uint8(n)}
	if modelColour(c) != piece {
		panic(modelPlace(m.at))
	}
	m.at += len(piece)
	return c
}

func (m *modelReader) escaped() string {
	size := strings.Index(m.s[m.at:], "<")
	if size < 0 {
		size = len(m.s) - m.at
	}
	text, place, ok := modelPlain(m.s[m.at : m.at+size])
	if !ok {
		panic(modelPlace(m.at + place))
	}
	m.at += size
	return text
}

func (m *modelReader) rect() api.Rect {
	var r api.Rect
	r.At.X = m.number()
	m.fixed("\" y=\"")
	r.At.Y = m.number()
	m.fixed("\" w=\"")
	r.Size.W = m.number()
	m.fixed("\" h=\"")
	r.Size.H = m.number()
	return r
}

// modelShapes answers the strokes and the size of any numbers, or the place of the first piece that is wrong.
func modelShapes(s string) (l []api.Stroke, z api.Size, at int, ok bool) {
	defer func() {
		if x := recover(); x != nil {
			l, z, at, ok = nil, api.Size{}, int(x.(modelPlace)), false
		}
	}()
	m := &modelReader{s: s}
	m.fixed("<shapes w=\"")
	z.W = m.number()
	m.fixed("\" h=\"")
	z.H = m.number()
	m.fixed("\">\n")
	for {
		var x api.Stroke
		switch m.fixed("<fill x=\"", "<frame x=\"", "<write x=\"", "<clip x=\"", "</clip n=\"", "</shapes>\n") {
		case "<fill x=\"":
			x.Kind = api.Fill
			x.Rect = m.rect()
			m.fixed("\" c=\"")
			x.Colour = m.colour()
			m.fixed("\" n=\"")
			x.Node = m.number()
			m.fixed("\"/>\n")
		case "<frame x=\"":
			x.Kind = api.Frame
			x.Rect = m.rect()
			m.fixed("\" c=\"")
			x.Colour = m.colour()
			m.fixed("\" n=\"")
			x.Node = m.number()
			m.fixed("\"/>\n")
		case "<write x=\"":
			x.Kind = api.Write
			x.Rect = m.rect()
			m.fixed("\" c=\"")
			x.Colour = m.colour()
			m.fixed("\" b=\"")
			x.Back = m.colour()
			m.fixed("\" n=\"")
			x.Node = m.number()
			m.fixed("\">")
			x.Text = m.escaped()
			m.fixed("</write>\n")
		case "<clip x=\"":
			x.Kind = api.Clip
			x.Rect = m.rect()
			m.fixed("\" n=\"")
			x.Node = m.number()
			m.fixed("\">\n")
		case "</clip n=\"":
			x.Kind = api.Open
			x.Node = m.number()
			m.fixed("\">\n")
		default:
			if m.at < len(s) {
				panic(modelPlace(m.at))
			}
			return l, z, 0, true
		}
		l = append(l, x)
	}
}

// modelCheck is what is wrong with strokes that were read: fields that a kind has not are not told.
func modelCheck(l []api.Stroke) api.Errno {
	opened := 0
	for _, s := range l {
		switch {
		case s.Node < 0 || s.Node > 1048576:
			return api.ErrArg
		case !modelRect(s.Rect):
			return api.ErrRect
		case s.Kind == api.Clip:
			opened++
		case s.Kind == api.Open:
			opened--
		}
		if opened < 0 {
			return api.ErrClip
		}
	}
	if opened > 0 {
		return api.ErrClip
	}
	return api.OK
}

func modelRect(r api.Rect) bool {
	for _, way := range [][2]int{{r.At.X, r.Size.W}, {r.At.Y, r.Size.H}} {
		if way[1] < 0 || way[0] < -16384 || way[0]+way[1] > 16384 {
			return false
		}
	}
	return true
}

func modelRead(s string) ([]api.Stroke, api.Size, int, api.Errno) {
	if len(s) > 65536 {
		return nil, api.Size{}, 0, api.ErrText
	}
	l, z, at, ok := modelShapes(s)
	switch {
	case !ok:
		return nil, api.Size{}, at, api.ErrVector
	case z.W < 0 || z.W > 16384 || z.H < 0 || z.H > 16384:
		return nil, api.Size{}, 0, api.ErrSize
	case modelCheck(l) != api.OK:
		return nil, api.Size{}, 0, modelCheck(l)
	}
	return l, z, 0, api.OK
}
