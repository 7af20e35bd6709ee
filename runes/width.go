package runes

// span is the runes from one number to another one, both of them too.
type span struct{ from, to rune }

// marks are the runes that stand upon the one ahead of them; none of them is a control.
var marks = []span{
	{0x300, 0x36f},
	{0x483, 0x489},
	{0x591, 0x5bd},
	{0x610, 0x61a},
	{0x64b, 0x65f},
	{0x200b, 0x200f},
	{0x202a, 0x202e},
	{0x2060, 0x2064},
	{0x20d0, 0x20ff},
	{0xfe00, 0xfe0f},
	{0xfe20, 0xfe2f},
	{0xe0100, 0xe01ef},
}

// wides are the runes of two cells; none of them is a mark.
var wides = []span{
	{0x1100, 0x115f},
	{0x2e80, 0x303e},
	{0x3041, 0x33ff},
	{0x3400, 0x4dbf},
	{0x4e00, 0x9fff},
	{0xa000, 0xa4cf},
	{0xac00, 0xd7a3},
	{0xf900, 0xfaff},
	{0xfe30, 0xfe6f},
	{0xff00, 0xff60},
	{0xffe0, 0xffe6},
	{0x1f300, 0x1f64f},
	{0x1f900, 0x1f9ff},
	{0x20000, 0x3fffd},
}

// Width is how many cells a rune takes: 0, 1 or 2. Numbers that are no runes lie in none of the ranges, and so take one.
func Width(r rune) int {
	switch {
	case isControl(r), isMark(r):
		return 0
	case isWide(r):
		return 2
	}
	return 1
}

func isControl(r rune) bool {
	return 0 <= r && r <= 0x1f || 0x7f <= r && r <= 0x9f
}

// The spans of a table ascend: the first one that does not end below a rune has it, or none does.
func isMark(r rune) bool {
	for _, s := range marks {
		if r <= s.to {
			return s.from <= r
		}
	}
	return false
}

func isWide(r rune) bool {
	for _, s := range wides {
		if r <= s.to {
			return s.from <= r
		}
	}
	return false
}
