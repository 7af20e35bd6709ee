package part

import (
	"slices"

	"casement/api"
)

// The types of parts, one for each set of abilities that a kind has. Each embeds what its kind can, and nothing else: what is promoted from there is its method set.
type (
	label struct { // Label, Spinner
		head
		measuring
		painting
	}
	button struct {
		head
		measuring
		painting
		focusing
	}
	field struct {
		head
		measuring
		painting
		focusing
		accepting
	}
	box struct { // Box, Grid, Stack
		head
		measuring
		holding
	}
	scroll struct {
		head
		measuring
		painting
		focusing
		scrolling
		holding
	}
	canvas struct {
		head
		painting
	}
	gap struct {
		head
		measuring
	}
)

// head is what all parts have. It has no methods: promoted ones would panic in hollow parts, of which Kind and Name must answer.
type head struct {
	kind uint8
	name string
}

// built is the part of a node that may be, with parts that it may hold.
func built(n api.Node, parts []Part) Part {
	h := head{kind: n.Kind, name: n.Name}
	m := measuringOf(n)
	p := painting{text: written(n)}
	f := focusing{order: n.Order}
	switch n.Kind {
	case api.Label, api.Spinner:
		return &label{head: h, measuring: m, painting: p}
	case api.Button:
		return &button{head: h, measuring: m, painting: p, focusing: f}
	case api.Field:
		return &field{head: h, measuring: m, painting: p, focusing: f, accepting: accepting{takes: droppedText}}
	case api.Box, api.Grid, api.Stack:
		return &box{head: h, measuring: m, holding: holding{parts: slices.Clone(parts)}}
	case api.Scroll:
		return &scroll{head: h, measuring: m, painting: p, focusing: f, scrolling: scrolling{off: n.Off}, holding: holding{parts: slices.Clone(parts)}}
	case api.Canvas:
		return &canvas{head: h, painting: p}
	case api.Gap:
		return &gap{head: h, measuring: m}
	}
	return nil
}

// hollow is a nil pointer of a kind's type; of what is no kind no part.
func hollow(kind uint8) Part {
	switch kind {
	case api.Label, api.Spinner:
		return (*label)(nil)
	case api.Button:
		return (*button)(nil)
	case api.Field:
		return (*field)(nil)
	case api.Box, api.Grid, api.Stack:
		return (*box)(nil)
	case api.Scroll:
		return (*scroll)(nil)
	case api.Canvas:
		return (*canvas)(nil)
	case api.Gap:
		return (*gap)(nil)
	}
	return nil
}

func (p *label) Kind() uint8 {
	if p == nil {
		return 0
	}
	return p.kind
}

func (p *label) Name() string {
	if p == nil {
		return ""
	}
	return p.name
}

func (p *button) Kind() uint8 {
	if p == nil {
		return 0
	}
	return p.kind
}

func (p *button) Name() string {
	if p == nil {
		return ""
	}
	return p.name
}

func (p *field) Kind() uint8 {
	if p == nil {
		return 0
	}
	return p.kind
}

func (p *field) Name() string {
	if p == nil {
		return ""
	}
	return p.name
}

func (p *box) Kind() uint8 {
	if p == nil {
		return 0
	}
	return p.kind
}

func (p *box) Name() string {
	if p == nil {
		return ""
	}
	return p.name
}

func (p *scroll) Kind() uint8 {
	if p == nil {
		return 0
	}
	return p.kind
}

func (p *scroll) Name() string {
	if p == nil {
		return ""
	}
	return p.name
}

func (p *canvas) Kind() uint8 {
	if p == nil {
		return 0
	}
	return p.kind
}

func (p *canvas) Name() string {
	if p == nil {
		return ""
	}
	return p.name
}

func (p *gap) Kind() uint8 {
	if p == nil {
		return 0
	}
	return p.kind
}

func (p *gap) Name() string {
	if p == nil {
		return ""
	}
	return p.name
}
