package event

import (
	"strconv"

	"casement/api"
)

const (
	blank    = ' '
	mark     = '%' // begins a byte that does not stand as it is
	sixteens = "0123456789abcdef"
)

// wordOf is a kind's word; of what is no kind the empty text.
func wordOf(kind uint8) string {
	switch kind {
	case api.EventKey:
		return "key"
	case api.EventText:
		return "text"
	case api.EventDown:
		return "down"
	case api.EventUp:
		return "up"
	case api.EventMove:
		return "move"
	case api.EventWheel:
		return "wheel"
	case api.EventTick:
		return "tick"
	case api.EventResize:
		return "resize"
	case api.EventDrag:
		return "drag"
	case api.EventDrop:
		return "drop"
	}
	return ""
}

// written is the text of an event that may be. A reader goes through the same fields in the same order.
func written(e api.Event) string {
	text := []byte(wordOf(e.Kind))
	has := fieldsOf(e.Kind)
	if has&key != 0 {
		text = appendNumbers(text, int(e.Key.Mods))
		text = appendEscaped(text, e.Key.Name)
	}
	if has&place != 0 {
		text = appendNumbers(text, e.At.X, e.At.Y)
	}
	if has&number != 0 {
		text = appendNumbers(text, e.N)
	}
	if has&words != 0 {
		text = appendEscaped(text, e.Text)
	}
	if has&size != 0 {
		text = appendNumbers(text, e.Size.W, e.Size.H)
	}
	return string(text)
}

// appendNumbers appends numbers to a text, each behind a blank.
func appendNumbers(text []byte, numbers ...int) []byte {
	for _, n := range numbers {
		text = strconv.AppendInt(append(text, blank), int64(n), 10)
	}
	return text
}

// appendEscaped appends another text to a text, behind a blank, escaped.
func appendEscaped(text []byte, s string) []byte {
	text = append(text, blank)
	for i := range len(s) {
		if b := s[i]; stands(b) {
			text = append(text, b)
		} else {
			text = append(text, mark, sixteens[b>>4], sixteens[b&15])
		}
	}
	return text
}

// stands tells whether a byte stands as it is in an escaped text.
func stands(b byte) bool {
	return b > 32 && b < 127 && b != mark
}
