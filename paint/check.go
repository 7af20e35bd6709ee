package paint

import (
	"cmp"

	"casement/api"
	"casement/style"
)

// inTurn is the first error of a call that lays a spec out. What layout finds wrong with its own arguments comes ahead of the others, what it finds out beyond that (ErrSize) behind them.
func inTurn(laid api.Errno, others ...api.Errno) api.Errno {
	if laid == api.ErrSpec || laid == api.ErrRect {
		return laid
	}
	return cmp.Or(cmp.Or(others...), laid)
}

// checkStyle is what is wrong with a theme, then with states of a spec's nodes.
func checkStyle(s api.Spec, theme []api.Rule, states []uint8) api.Errno {
	if e := style.Check(theme); e != api.OK {
		return e
	}
	if len(states) > len(s.Nodes) {
		return api.ErrMany
	}
	return api.OK
}

func checkNode(s api.Spec, node int) api.Errno {
	if node < 0 || node >= len(s.Nodes) {
		return api.ErrNode
	}
	return api.OK
}
