package code

import (
	"pianola/api"
	"pianola/shape"
)

// limits tells whether a program's numbers, and then the lengths of its lists, are within their limits.
func limits(p api.Program) api.Errno {
	switch {
	case !within(p.Memory, 0, api.MaxMem), !within(p.Counters, 0, api.MaxNest+1), !within(p.Ins, 0, api.MaxPorts), !within(p.Outs, 0, api.MaxPorts):
		return api.ErrArg
	case len(p.Parts) > api.MaxActors, len(p.Lines) > api.MaxEdges, len(p.Ops) > api.MaxOps:
		return api.ErrMany
	}
	return api.OK
}

func parts(all []api.Part) api.Errno {
	for _, part := range all {
		if _, _, e := shape.Of(part.Tag, part.Params...); e != api.OK {
			return e
		}
	}
	return api.OK
}

func lines(all []api.Line, memory int) api.Errno {
	for _, line := range all {
		if !inside(line.Region, memory) {
			return api.ErrSize
		}
		if len(line.Start) > line.Region.Size {
			return api.ErrStart
		}
	}
	return api.OK
}

// inside tells whether a region lies in so many cells. Taking the Base away from these fits; Base and Size added up might not.
func inside(r api.Region, memory int) bool {
	return r.Base >= 0 && r.Size >= 0 && r.Size <= memory-r.Base
}

// lets tells whether the table lets an operation's kind, A and B be in a program.
func lets(p api.Program, op api.Op) bool {
	switch op.Kind {
	case api.OpEnd:
		return op.A == 0 && op.B == 0
	case api.OpHead:
		return names(op.A, p.Counters) && within(op.B, 1, api.MaxFirings)
	case api.OpBack:
		return names(op.A, p.Counters) && names(op.B, len(p.Ops))
	case api.OpTake, api.OpGive:
		return names(op.A, len(p.Lines)) && within(op.B, 1, api.MaxRate)
	case api.OpRead:
		return names(op.A, p.Ins) && within(op.B, 1, api.MaxRate)
	case api.OpWrite:
		return names(op.A, p.Outs) && within(op.B, 1, api.MaxRate)
	case api.OpCall:
		return names(op.A, len(p.Parts)) && op.B == 0
	}
	return false
}

func within(n, least, most int) bool { return n >= least && n <= most }

// names tells whether a number is that of one of so many.
func names(n, many int) bool { return n >= 0 && n < many }
