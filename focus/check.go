package focus

import (
	"cmp"

	"casement/api"
	"casement/layout"
)

// none is the number that stands for no node.
const none = -1

// laid is where all nodes lie. What layout finds wrong with its own arguments comes ahead of what is wrong with others, what it finds out beyond that (ErrSize) behind it.
func laid(s api.Spec, r api.Rect, others ...api.Errno) ([]api.Place, api.Errno) {
	places, e := layout.Places(s, r)
	if e != api.ErrSpec && e != api.ErrRect {
		e = cmp.Or(cmp.Or(others...), e)
	}
	if e != api.OK {
		return nil, e
	}
	return places, api.OK
}

func checkNode(s api.Spec, node int) api.Errno {
	if node < 0 || node >= len(s.Nodes) {
		return api.ErrNode
	}
	return api.OK
}

// checkFrom asks for a node from which one goes on; none is one, too.
func checkFrom(s api.Spec, node int) api.Errno {
	if node == none {
		return api.OK
	}
	return checkNode(s, node)
}

func checkWay(way uint8) api.Errno {
	if way > below {
		return api.ErrArg
	}
	return api.OK
}
