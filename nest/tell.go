package nest

import "pianola/api"

// copied is a nest in memory of its own, its bodies too. It must be sound: else it might have no end.
func copied(nest []api.Loop) []api.Loop {
	own := make([]api.Loop, len(nest))
	for i, loop := range nest {
		own[i] = api.Loop{Times: loop.Times, Node: loop.Node, Body: copied(loop.Body)}
	}
	return own
}

// tell yields a nest's firings, till one is the last that is wanted; it tells whether more are.
func tell(nest []api.Loop, yield func(int) bool) bool {
	for _, loop := range nest {
		for range loop.Times {
			if !tellOnce(loop, yield) {
				return false
			}
		}
	}
	return true
}

// tellOnce yields what a loop has each time that it goes round.
func tellOnce(loop api.Loop, yield func(int) bool) bool {
	if isLeaf(loop) {
		return yield(loop.Node)
	}
	return tell(loop.Body, yield)
}
