package wrap

import (
	"unicode/utf8"

	"casement/api"
)

// mostOrder is the greatest place in the order of the focus, which api does not name.
const mostOrder = 1 << 20

// checkAll asks for a list's length ahead of its wrappers.
func checkAll(l []api.Wrap) api.Errno {
	if len(l) > api.MaxWraps {
		return api.ErrMany
	}
	for _, w := range l {
		if !mayBe(w) {
			return api.ErrWrap
		}
	}
	return api.OK
}

func mayBe(w api.Wrap) bool {
	return w.Kind >= api.WrapHide && w.Kind <= api.WrapHalf && maskMayBe(w) && numberMayBe(w) && textMayBe(w)
}

func maskMayBe(w api.Wrap) bool {
	switch w.Kind {
	case api.WrapHide, api.WrapOnly:
		return w.Mask&^api.All == 0
	}
	return w.Mask == 0
}

func numberMayBe(w api.Wrap) bool {
	switch w.Kind {
	case api.WrapPad:
		return w.Number >= 0 && w.Number <= api.MaxSide
	case api.WrapFocus:
		return w.Number >= -1 && w.Number <= mostOrder
	}
	return w.Number == 0
}

func textMayBe(w api.Wrap) bool {
	short := len(w.Text) <= api.MaxName && utf8.ValidString(w.Text)
	switch w.Kind {
	case api.WrapName:
		return short
	case api.WrapDrop:
		return short && w.Text != ""
	}
	return w.Text == ""
}

// left is what a part that can this can still, with a wrapper about it.
func left(can uint16, w api.Wrap) uint16 {
	switch w.Kind {
	case api.WrapHide:
		return can &^ w.Mask
	case api.WrapOnly:
		return can & w.Mask
	case api.WrapFocus:
		return can | api.Focuses
	case api.WrapDrop:
		return can | api.Accepts
	case api.WrapHalf:
		return 0
	}
	return can
}
