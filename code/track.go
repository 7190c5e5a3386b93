package code

import "pianola/api"

// beyond stands for every number of steps that is too great, so that none grows past what fits.
const beyond = api.MaxOps + 1

// track goes along the operations of a program.
type track struct {
	open  []head // those that are not closed yet, in their order
	steps int    // of what stands behind the last open head
}

// head is one that has been opened: its place, its counter, how often its loop goes round, and the steps that the row that it stands in has ahead of it.
type head struct {
	place   int
	counter int
	times   int
	ahead   int
}

// along is the steps of a program's operations, or what is wrong with these.
func along(p api.Program) (int, api.Errno) {
	var t track
	last := len(p.Ops) - 1
	for at, op := range p.Ops {
		if !lets(p, op) || op.Kind == api.OpEnd && at != last {
			return 0, api.ErrOp
		}
		if e := t.pass(op, at); e != api.OK {
			return 0, e
		}
	}
	if last < 0 || p.Ops[last].Kind != api.OpEnd {
		return 0, api.ErrOp
	}
	if t.steps == beyond {
		return 0, api.ErrTooBig
	}
	return t.steps, api.OK
}

// pass goes behind an operation that the table lets be.
func (t *track) pass(op api.Op, at int) api.Errno {
	switch op.Kind {
	case api.OpHead:
		return t.enter(op, at)
	case api.OpBack:
		return t.leave(op)
	case api.OpEnd:
		if len(t.open) > 0 {
			return api.ErrLoops
		}
	}
	t.add(1)
	return api.OK
}

func (t *track) enter(op api.Op, at int) api.Errno {
	for _, h := range t.open {
		if h.counter == op.A {
			return api.ErrLoops
		}
	}
	t.open = append(t.open, head{place: at, counter: op.A, times: op.B, ahead: t.steps})
	t.steps = 0
	return api.OK
}

func (t *track) leave(op api.Op) api.Errno {
	last := len(t.open) - 1
	if last < 0 {
		return api.ErrLoops
	}
	h := t.open[last]
	if op.A != h.counter || op.B != h.place+1 {
		return api.ErrLoops
	}
	t.open = t.open[:last]
	round := t.steps + 1
	t.steps = h.ahead
	t.add(1 + h.times*round)
	return api.OK
}

// add counts steps. They fit, and so does their sum: none of the numbers that they are made of is greater than beyond.
func (t *track) add(steps int) { t.steps = min(beyond, t.steps+steps) }
