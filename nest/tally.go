package nest

import "pianola/api"

// tally is what has been met of a nest so far, loop by loop in its order.
type tally struct {
	leaves int
	heads  int
	deep   int
}

// row goes through loops that stand within depth blocks; it tells how many firings they have, capped, or the first error.
func (t *tally) row(loops []api.Loop, depth int) (int, api.Errno) {
	total := 0
	for _, loop := range loops {
		firings, e := t.loop(loop, depth)
		if e != api.OK {
			return 0, e
		}
		total = capped(total + firings)
	}
	return total, api.OK
}

// loop goes through one of them. Whatever the bodies share, and even if one is within itself, it ends: blocks end at MaxNest, and each of them leads to a leaf.
func (t *tally) loop(loop api.Loop, depth int) (int, api.Errno) {
	if !isLeaf(loop) {
		depth++
	}
	if e := t.flaw(loop, depth); e != api.OK {
		return 0, e
	}
	if loop.Times > 1 {
		t.heads++
	}
	if isLeaf(loop) {
		t.leaves++
		return capped(loop.Times), api.OK
	}
	t.deep = max(t.deep, depth)
	once, e := t.row(loop.Body, depth)
	return capped(once * capped(loop.Times)), e
}

// flaw is the first thing that is wrong with a loop by itself, at its depth and behind what has been met.
func (t *tally) flaw(loop api.Loop, depth int) api.Errno {
	leaf := isLeaf(loop)
	switch {
	case t.leaves >= api.MaxFirings:
		return api.ErrTooBig
	case !leaf && depth > api.MaxNest:
		return api.ErrDeep
	case loop.Times < 1:
		return api.ErrTimes
	case !leaf && loop.Node != 0:
		return api.ErrForm
	case leaf && !isNode(loop.Node):
		return api.ErrNode
	}
	return api.OK
}

func isLeaf(loop api.Loop) bool { return len(loop.Body) == 0 }

func isNode(node int) bool { return node >= 0 && node < api.MaxActors }

// capped is a number of firings, with one that stands for all that are too many: sums and products of such numbers fit, and stay too many.
func capped(firings int) int { return min(firings, api.MaxFirings+1) }
