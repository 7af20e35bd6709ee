package vector

import (
	"errors"
	"strconv"
	"strings"

	"casement/api"
	"casement/colour"
)

// maxDigits is how many digits a number may have, so that none is too great to be read.
const maxDigits = 9

// wrong is a piece that is not what must stand there; it wraps its place.
type wrong struct {
	must  string
	place *api.Fault
}

// Error is a text.
func (w *wrong) Error() string { return "vector: here must stand " + w.must }

// Unwrap is the place.
func (w *wrong) Unwrap() error { return w.place }

// faultOf is the place that an error of the reader wraps, with its number.
func faultOf(err error) api.Fault {
	var f *api.Fault
	if errors.As(err, &f) {
		return *f
	}
	return api.Fault{Code: api.ErrVector}
}

// reader goes through a text of shapes, piece by piece.
type reader struct {
	text string
	at   int
}

// shapes reads a whole text of shapes: all pieces are right, if it tells no error.
func shapes(text string) ([]api.Stroke, api.Size, error) {
	r := &reader{text: text}
	head, err := r.line(headForm)
	if err != nil {
		return nil, api.Size{}, err
	}
	var l []api.Stroke
	for !r.begins(lastForm) {
		s, err := r.stroke()
		if err != nil {
			return nil, api.Size{}, err
		}
		l = append(l, s)
	}
	r.at += len(lastForm)
	if r.at < len(text) {
		return nil, api.Size{}, r.refuse(0, "the text's end")
	}
	return l, head.Rect.Size, nil
}

// refuse is the error of a piece that begins where the reader is; it is wrong so many bytes behind its beginning.
func (r *reader) refuse(behind int, must string) error {
	return &wrong{must: must, place: &api.Fault{Code: api.ErrVector, At: r.at + behind}}
}

func (r *reader) begins(with string) bool {
	return strings.HasPrefix(r.text[r.at:], with)
}

// stroke reads the line of a stroke: its kind is the one whose form begins as the line does.
func (r *reader) stroke() (api.Stroke, error) {
	for kind := api.Fill; kind <= api.Open; kind++ {
		form := formOf(kind)
		if !r.begins(form[:fixedSize(form)]) {
			continue
		}
		s, err := r.line(form)
		if err != nil {
			return api.Stroke{}, err
		}
		s.Kind = kind
		return s, nil
	}
	return api.Stroke{}, r.refuse(0, "a shape, or the last line")
}

// line reads a line of a form, and answers what it tells.
func (r *reader) line(form string) (api.Stroke, error) {
	var s api.Stroke
	for {
		fixed := form[:fixedSize(form)]
		if !r.begins(fixed) {
			return api.Stroke{}, r.refuse(0, fixed)
		}
		r.at += len(fixed)
		form = form[len(fixed):]
		if form == "" {
			return s, nil
		}
		if err := r.told(form[0], &s); err != nil {
			return api.Stroke{}, err
		}
		form = form[1:]
	}
}

// fixedSize is how many bytes of a form stand as they are, up to its first great letter.
func fixedSize(form string) int {
	return runOf(form, func(b byte) bool { return b < 'A' || b > 'Z' })
}

// runOf is how many bytes at a text's beginning are such ones.
func runOf(text string, such func(byte) bool) int {
	size := 0
	for size < len(text) && such(text[size]) {
		size++
	}
	return size
}

// told reads what a form's letter stands for.
func (r *reader) told(letter byte, s *api.Stroke) error {
	var err error
	switch letter {
	case 'X':
		s.Rect.At.X, err = r.number()
	case 'Y':
		s.Rect.At.Y, err = r.number()
	case 'W':
		s.Rect.Size.W, err = r.number()
	case 'H':
		s.Rect.Size.H, err = r.number()
	case 'C':
		s.Colour, err = r.colour()
	case 'B':
		s.Back, err = r.colour()
	case 'N':
		s.Node, err = r.number()
	case 'T':
		s.Text, err = r.escaped()
	}
	return err
}

func (r *reader) number() (int, error) {
	rest := r.text[r.at:]
	sign := 0
	if strings.HasPrefix(rest, "-") {
		sign = 1
	}
	digits := runOf(rest[sign:], isDigit)
	piece := rest[:sign+digits]
	n, err := strconv.Atoi(piece)
	if digits > maxDigits || err != nil || strconv.Itoa(n) != piece {
		return 0, r.refuse(0, "a number")
	}
	r.at += len(piece)
	return n, nil
}

func isDigit(b byte) bool { return b >= '0' && b <= '9' }

func (r *reader) colour() (api.Colour, error) {
	rest := r.text[r.at:]
	piece := rest[:runOf(rest, isOfColour)]
	c, _, e := colour.Parse(piece)
	if e != api.OK || colour.Text(c) != piece {
		return api.Colour{}, r.refuse(0, "a colour")
	}
	r.at += len(piece)
	return c, nil
}

func isOfColour(b byte) bool {
	return b == '#' || isDigit(b) || b >= 'a' && b <= 'f' || b >= 'A' && b <= 'F'
}

func (r *reader) escaped() (string, error) {
	piece, _, _ := strings.Cut(r.text[r.at:], "<")
	text, at, e := Plain(piece)
	if e != api.OK {
		return "", r.refuse(at, "an escaped text")
	}
	r.at += len(piece)
	return text, nil
}
