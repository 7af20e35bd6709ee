package part

import (
	"casement/api"
)

// abilities is those for which an assertion holds.
func abilities(p Part) uint16 {
	var can uint16
	if _, ok := p.(Measurer); ok {
		can |= api.Measures
	}
	if _, ok := p.(Painter); ok {
		can |= api.Paints
	}
	if _, ok := p.(Focuser); ok {
		can |= api.Focuses
	}
	if _, ok := p.(Scroller); ok {
		can |= api.Scrolls
	}
	if _, ok := p.(Accepter); ok {
		can |= api.Accepts
	}
	if _, ok := p.(Holder); ok {
		can |= api.Holds
	}
	return can
}

// measurer is a part as one that measures; nil, if it does not, or is none. So are the five that follow.
func measurer(p Part) Measurer {
	if m, ok := p.(Measurer); ok && !None(p) {
		return m
	}
	return nil
}

func painter(p Part) Painter {
	if willing, ok := p.(Painter); ok && !None(p) {
		return willing
	}
	return nil
}

func focuser(p Part) Focuser {
	if f, ok := p.(Focuser); ok && !None(p) {
		return f
	}
	return nil
}

func scroller(p Part) Scroller {
	if s, ok := p.(Scroller); ok && !None(p) {
		return s
	}
	return nil
}

func accepter(p Part) Accepter {
	if a, ok := p.(Accepter); ok && !None(p) {
		return a
	}
	return nil
}

func holder(p Part) Holder {
	if h, ok := p.(Holder); ok && !None(p) {
		return h
	}
	return nil
}

// answered is what a part's method answers: one that comes to a hollow part within panics, and that is none.
func answered[V any](ask func() V) (answer V, e api.Errno) {
	defer func() {
		if recover() != nil {
			e = api.ErrNone
		}
	}()
	return ask(), api.OK
}

// firstMissing insists on the abilities of a mask, the lowest bit first: the one at which that panicked is not there.
func firstMissing(p Part, mask uint16) (missing uint16, e api.Errno) {
	defer func() {
		if recover() != nil {
			e = api.ErrPart
		}
	}()
	for missing = api.Measures; missing <= api.Holds; missing <<= 1 {
		if mask&missing != 0 {
			insist(p, missing)
		}
	}
	return 0, api.OK
}

// insist panics, if a part does not have an ability.
func insist(p Part, ability uint16) {
	switch ability {
	case api.Measures:
		_ = p.(Measurer)
	case api.Paints:
		_ = p.(Painter)
	case api.Focuses:
		_ = p.(Focuser)
	case api.Scrolls:
		_ = p.(Scroller)
	case api.Accepts:
		_ = p.(Accepter)
	case api.Holds:
		_ = p.(Holder)
	}
}
