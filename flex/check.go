package flex

import (
	"casement/api"
)

// maxRoom is the greatest room that is shared out: from one end of all places to the other one.
const maxRoom = 2 * api.MaxSide

// check tells whether tracks may be.
func check(l []api.Track) api.Errno {
	if len(l) > api.MaxNodes {
		return api.ErrMany
	}
	for _, t := range l {
		if !mayBe(t) {
			return api.ErrFlex
		}
	}
	return api.OK
}

func mayBe(t api.Track) bool {
	return isSide(t.Min) && isSide(t.Max) && isSide(t.Grow) && (t.Max == 0 || t.Min <= t.Max)
}

func checkSizes(sizes []int) api.Errno {
	if len(sizes) > api.MaxNodes {
		return api.ErrMany
	}
	for _, size := range sizes {
		if !isRoom(size) {
			return api.ErrArg
		}
	}
	return api.OK
}

func isSide(n int) bool {
	return 0 <= n && n <= api.MaxSide
}

func isRoom(n int) bool {
	return 0 <= n && n <= maxRoom
}
