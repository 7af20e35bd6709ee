package vector

import (
	"strconv"

	"casement/api"
	"casement/colour"
)

// The forms of the lines, after which they are written and read alike. A great letter stands for what a stroke tells: X, Y, W and H its Rect, C its Colour, B its Back, N its Node, T its Text; all else stands as it is.
const (
	headForm  = `<shapes w="W" h="H">` + "\n" // the size as that of a stroke's Rect
	fillForm  = `<fill x="X" y="Y" w="W" h="H" c="C" n="N"/>` + "\n"
	frameForm = `<frame x="X" y="Y" w="W" h="H" c="C" n="N"/>` + "\n"
	writeForm = `<write x="X" y="Y" w="W" h="H" c="C" b="B" n="N">T</write>` + "\n"
	clipForm  = `<clip x="X" y="Y" w="W" h="H" n="N">` + "\n"
	openForm  = `</clip n="N">` + "\n"
	lastForm  = `</shapes>` + "\n"
)

// formOf is the form of a kind of strokes.
func formOf(kind uint8) string {
	switch kind {
	case api.Fill:
		return fillForm
	case api.Frame:
		return frameForm
	case api.Write:
		return writeForm
	case api.Clip:
		return clipForm
	}
	return openForm
}

// appendShapes appends the text of the shapes, as far as it may be long: one that is longer is cut off somewhere beyond that.
func appendShapes(text []byte, l []api.Stroke, s api.Size) []byte {
	text = appendLine(text, headForm, api.Stroke{Rect: api.Rect{Size: s}})
	for _, stroke := range l {
		// Strokes may have more bytes together than there is need to write.
		if len(text) > api.MaxText {
			return text
		}
		text = appendLine(text, formOf(stroke.Kind), stroke)
	}
	return append(text, lastForm...)
}

// appendLine appends what a stroke tells, in a form.
func appendLine(text []byte, form string, s api.Stroke) []byte {
	for i := range len(form) {
		switch form[i] {
		case 'X':
			text = appendNumber(text, s.Rect.At.X)
		case 'Y':
			text = appendNumber(text, s.Rect.At.Y)
		case 'W':
			text = appendNumber(text, s.Rect.Size.W)
		case 'H':
			text = appendNumber(text, s.Rect.Size.H)
		case 'C':
			text = append(text, colour.Text(s.Colour)...)
		case 'B':
			text = append(text, colour.Text(s.Back)...)
		case 'N':
			text = appendNumber(text, s.Node)
		case 'T':
			text = appendEscaped(text, s.Text)
		default:
			text = append(text, form[i])
		}
	}
	return text
}

func appendNumber(text []byte, n int) []byte {
	return strconv.AppendInt(text, int64(n), 10)
}
