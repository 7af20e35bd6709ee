package event

import (
	"fmt"
	"regexp"
	"slices"
	"strconv"
	"strings"

	"casement/api"
)

// The models go by the document's words. They call none of the other layers: what a node's part can, and who is there, they tell themselves.

// modelPart is whether a node's part can hold, and whether it is hollow.
func modelPart(n api.Node) (holds, hollow bool) {
	holds = slices.Contains([]uint8{4, 5, 6, 10}, n.Kind)
	for _, w := range n.Wraps {
		hollow = w.Kind == 7
		masked := w.Mask/32%2 == 1
		switch {
		case w.Kind == 7, w.Kind == 1 && masked, w.Kind == 2 && !masked:
			holds = false
		}
	}
	return holds, hollow
}

func modelParent(s api.Spec, node int) int {
	for up, n := range s.Nodes {
		if slices.Contains(n.Kids, node) {
			return up
		}
	}
	return -1
}

// modelThere asks whether a node is there, and then for what holds it.
func modelThere(s api.Spec, node int) bool {
	if _, hollow := modelPart(s.Nodes[node]); hollow || s.Nodes[node].Hidden {
		return false
	}
	up := modelParent(s, node)
	if up < 0 {
		return true
	}
	holds, _ := modelPart(s.Nodes[up])
	return holds && modelThere(s, up)
}

// modelWay goes up from the node, and puts a stop at both ends of the way for each one that is there.
func modelWay(s api.Spec, node int) []api.Visit {
	var way []api.Visit
	if modelThere(s, node) {
		way = append(way, api.Visit{Node: node, Phase: 2})
	}
	for up := modelParent(s, node); up >= 0; up = modelParent(s, up) {
		if modelThere(s, up) {
			way = slices.Concat([]api.Visit{{Node: up, Phase: 1}}, way, []api.Visit{{Node: up, Phase: 3}})
		}
	}
	return way
}

// modelSend deals the handlers out to the stops, handler by handler, and takes what is told up to the first stop that has a Stop.
func modelSend(s api.Spec, l []api.Handler, e api.Event, node int) ([]string, int) {
	way := modelWay(s, node)
	at := make([][]string, len(way))
	stop := -1
	for _, h := range l {
		i := slices.Index(way, api.Visit{Node: h.Node, Phase: h.Phase})
		if i < 0 || h.Kind != e.Kind {
			continue
		}
		at[i] = append(at[i], h.Tell)
		if h.Stop && (stop < 0 || i < stop) {
			stop = i
		}
	}
	if stop >= 0 {
		at = at[:stop+1]
	}
	return slices.Concat(at...), stop
}

func modelHandlers(s api.Spec, l []api.Handler) api.Errno {
	if len(l) > 4096 {
		return api.ErrMany
	}
	for _, h := range l {
		switch {
		case h.Node < 0, h.Node > len(s.Nodes)-1:
			return api.ErrNode
		case h.Kind == 0, h.Kind > 10, h.Phase == 0, h.Phase > 3, len(h.Tell) > 64:
			return api.ErrEvent
		}
	}
	return api.OK
}

// modelKind is what stands in the chapter's table: a kind's word, and the pieces behind it: m Mods, n a Name, x y a place, b which button, w of a wheel, t ticks, W H a size, f a text, d the kind of what is dragged.
type modelKind struct{ word, pieces string }

func modelKinds() []modelKind {
	return []modelKind{{}, {"key", "mn"}, {"text", "f"}, {"down", "xyb"}, {"up", "xyb"}, {"move", "xy"}, {"wheel", "xyw"}, {"tick", "t"}, {"resize", "WH"}, {"drag", "xyd"}, {"drop", "xyd"}}
}

func modelKindOf(e api.Event) modelKind {
	if kinds := modelKinds(); int(e.Kind) < len(kinds) {
		return kinds[e.Kind]
	}
	return modelKind{}
}

// modelNumber is the number of an event for which a piece stands, and its least and its most.
func modelNumber(e *api.Event, piece rune) (*int, int, int) {
	switch piece {
	case 'x':
		return &e.At.X, -16384, 16384
	case 'y':
		return &e.At.Y, -16384, 16384
	case 'b':
		return &e.N, 1, 3
	case 'w':
		return &e.N, -16384, 16384
	case 't':
		return &e.N, 1, 1048576
	case 'W':
		return &e.Size.W, 0, 32768
	case 'H':
		return &e.Size.H, 0, 32768
	}
	return nil, 0, 0
}

// modelString is the text of an event for which a piece stands, and how long it may be.
func modelString(e *api.Event, piece rune) (*string, int) {
	switch piece {
	case 'n':
		return &e.Key.Name, 64
	case 'f':
		return &e.Text, 65536
	case 'd':
		return &e.Text, 64
	}
	return nil, 0
}

// modelMay takes away what an event of its kind may have, and asks whether anything but the kind is left.
func modelMay(e api.Event) bool {
	is := modelKindOf(e)
	left := e
	for _, piece := range is.pieces {
		if n, least, most := modelNumber(&left, piece); n != nil {
			if *n < least || *n > most || piece == 'w' && *n == 0 {
				return false
			}
			*n = 0
		}
		if s, most := modelString(&left, piece); s != nil {
			if *s == "" || len(*s) > most || piece == 'n' && strings.ToValidUTF8(*s, "") != *s {
				return false
			}
			*s = ""
		}
		if piece == 'm' {
			if left.Key.Mods > 7 {
				return false
			}
			left.Key.Mods = 0
		}
	}
	return is.word != "" && left == api.Event{Kind: e.Kind}
}

// modelText is the text of an event that may be.
func modelText(e api.Event) string {
	is := modelKindOf(e)
	l := []string{is.word}
	for _, piece := range is.pieces {
		if n, _, _ := modelNumber(&e, piece); n != nil {
			l = append(l, fmt.Sprint(*n))
		}
		if s, _ := modelString(&e, piece); s != nil {
			l = append(l, modelEscaped(*s))
		}
		if piece == 'm' {
			l = append(l, fmt.Sprint(e.Key.Mods))
		}
	}
	return strings.Join(l, " ")
}

func modelEscaped(s string) string {
	var b strings.Builder
	for _, c := range []byte(s) {
		if 33 <= c && c <= 126 && c != '%' {
			b.WriteByte(c)
		} else {
			fmt.Fprintf(&b, "%%%02x", c)
		}
	}
	return b.String()
}

var (
	modelWord  = regexp.MustCompile(`^[a-z]*`)
	modelDigit = regexp.MustCompile(`^-?[0-9]*`)
	modelWhole = regexp.MustCompile(`^(0|-?[1-9][0-9]{0,8})$`)
	modelPlain = regexp.MustCompile(`^([!-$&-~]|%([01][0-9a-f]|20|25|7f|[89a-f][0-9a-f]))*`)
)

// modelParse takes a text's pieces away one by one, as far as they are right.
func modelParse(s string) (api.Event, int, api.Errno) {
	if len(s) > 65536 {
		return api.Event{}, 0, api.ErrText
	}
	left, e := s, api.Event{}
	word := modelWord.FindString(s)
	i := slices.IndexFunc(modelKinds(), func(is modelKind) bool { return is.word == word && word != "" })
	if i < 0 {
		return api.Event{}, 0, api.ErrEvent
	}
	e.Kind, left = uint8(i), left[len(word):]
	tooGreat := false // Mods beyond a byte
	for _, piece := range modelKinds()[i].pieces {
		if !strings.HasPrefix(left, " ") {
			return api.Event{}, len(s) - len(left), api.ErrEvent
		}
		left = left[1:]
		if text, _ := modelString(&e, piece); text != nil {
			cut, _, _ := strings.Cut(left, " ")
			if right := modelPlain.FindString(cut); right != cut || cut == "" {
				return api.Event{}, len(s) - len(left) + len(right), api.ErrEvent
			}
			*text, left = modelUnescaped(cut), left[len(cut):]
			continue
		}
		digits := modelDigit.FindString(left)
		if !modelWhole.MatchString(digits) {
			return api.Event{}, len(s) - len(left), api.ErrEvent
		}
		left = left[len(digits):]
		n, _ := strconv.Atoi(digits)
		if number, _, _ := modelNumber(&e, piece); number != nil {
			*number = n
		} else {
			e.Key.Mods, tooGreat = uint8(n), n < 0 || n > 255
		}
	}
	if left != "" {
		return api.Event{}, len(s) - len(left), api.ErrEvent
	}
	if tooGreat || !modelMay(e) {
		return api.Event{}, 0, api.ErrEvent
	}
	return e, 0, api.OK
}

var modelMarked = regexp.MustCompile(`%..`)

func modelUnescaped(s string) string {
	return string(modelMarked.ReplaceAllFunc([]byte(s), func(m []byte) []byte {
		n, _ := strconv.ParseUint(string(m[1:]), 16, 8)
		return []byte{byte(n)}
	}))
}
