package least

import (
	"casement/api"
)

// check tells whether bounds about n numbers may be.
func check(n int, l []api.Bound) api.Errno {
	if n < 0 {
		return api.ErrArg
	}
	if n > api.MaxBounds || len(l) > api.MaxBounds {
		return api.ErrMany
	}
	for _, b := range l {
		if !mayBe(n, b) {
			return api.ErrArg
		}
	}
	return api.OK
}

func mayBe(n int, b api.Bound) bool {
	return isNumber(n, b.A) && isNumber(n, b.B) && -maxFar <= b.Far && b.Far <= maxFar
}

func isNumber(n, i int) bool {
	return 0 <= i && i < n
}

func checkNumbers(at []int) api.Errno {
	if len(at) > api.MaxBounds {
		return api.ErrMany
	}
	for _, x := range at {
		if x < -maxNumber || x > maxNumber {
			return api.ErrArg
		}
	}
	return api.OK
}
