package grid

import (
	"casement/api"
	"casement/geom"
)

// maxColumns is how many columns there may be, and how many of them a thing may ask for.
const maxColumns = 64

func checkSpans(spans []int) api.Errno {
	return checkList(spans, checkColumns)
}

func checkLeast(least []int) api.Errno {
	return checkList(least, checkSide)
}

func checkSizes(sizes []api.Size) api.Errno {
	return checkList(sizes, checkSize)
}

// checkList asks for a list's length ahead of its elements, so that none is looked at of a list that is too long.
func checkList[T any](l []T, check func(T) api.Errno) api.Errno {
	if len(l) > api.MaxNodes {
		return api.ErrMany
	}
	for _, one := range l {
		if e := check(one); e != api.OK {
			return e
		}
	}
	return api.OK
}

func checkColumns(n int) api.Errno {
	return checkUpTo(n, maxColumns)
}

func checkSide(n int) api.Errno {
	return checkUpTo(n, api.MaxSide)
}

func checkSize(s api.Size) api.Errno {
	if e := checkSide(s.W); e != api.OK {
		return e
	}
	return checkSide(s.H)
}

func checkUpTo(n, most int) api.Errno {
	if n < 0 || n > most {
		return api.ErrArg
	}
	return api.OK
}

// checkPairs tells whether there is just one of others for each thing.
func checkPairs(things, others int) api.Errno {
	if things != others {
		return api.ErrGrid
	}
	return api.OK
}

func mayNotBe(r api.Rect) bool {
	return geom.Check(r) != api.OK
}
