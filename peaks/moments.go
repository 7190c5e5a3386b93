package peaks

import (
	"pianola/api"
	"pianola/net"
)

// overMoments goes over the moments of a list: what first makes of the start's row, next carries on from row to row. Each row is handed over for good, in memory of its own.
func overMoments[T any](n api.Net, first func(row []int) T, next func(so T, row []int) T, list ...int) (T, api.Errno) {
	var none T
	s, e := net.New(n)
	if e != api.OK {
		return none, e
	}
	if len(list) > api.MaxFirings {
		return none, api.ErrLong
	}
	so := first(s.Counts())
	for _, node := range list {
		if node < 0 || node >= n.Nodes {
			return none, api.ErrNode
		}
		if s.Fire(node) == 0 {
			return none, api.ErrFire
		}
		so = next(so, s.Counts())
	}
	return so, api.OK
}
