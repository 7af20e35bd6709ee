package part

import (
	"unicode/utf8"

	"casement/api"
)

// The greatest numbers of a node that api does not name.
const (
	mostOrder   = 1 << 20
	mostColumns = 64
	mostSpan    = 64
	mostOff     = 1 << 20
)

func isKind(kind uint8) bool {
	return kind >= api.Label && kind <= api.Stack
}

// mostParts is how many parts a kind may hold.
func mostParts(kind uint8) int {
	switch kind {
	case api.Box, api.Grid, api.Stack:
		return api.MaxNodes
	case api.Scroll:
		return 1
	}
	return 0
}

// nodeMayBe tells whether all is as a node's must be that a part is made of: its kind, its wrappers and its kids are asked elsewhere.
func nodeMayBe(n api.Node) bool {
	return textMayBe(n.Name, api.MaxName) &&
		textMayBe(n.Class, api.MaxName) &&
		textMayBe(n.Text, api.MaxText) &&
		sizeMayBe(n.Min) && sizeMayBe(n.Max) &&
		mostMayBe(n.Min.W, n.Max.W) && mostMayBe(n.Min.H, n.Max.H) &&
		within(n.Grow, 0, api.MaxSide) &&
		within(n.Order, -1, mostOrder) &&
		within(n.Columns, 0, mostColumns) &&
		within(n.Span, 0, mostSpan) &&
		within(n.Gap, 0, api.MaxSide) &&
		within(n.Off.X, 0, mostOff) && within(n.Off.Y, 0, mostOff)
}

func textMayBe(s string, most int) bool {
	return len(s) <= most && utf8.ValidString(s)
}

func sizeMayBe(s api.Size) bool {
	return within(s.W, 0, api.MaxSide) && within(s.H, 0, api.MaxSide)
}

// mostMayBe: a Max of 0 is none, so nothing is above it.
func mostMayBe(least, most int) bool {
	return most == 0 || most >= least
}

// within tells whether a number is from low to high, both allowed.
func within(n, low, high int) bool {
	return n >= low && n <= high
}
