package code

import (
	"strings"

	"pianola/api"
)

// magic are the bytes that a program's begin with.
const magic = "PNL1"

// reader reads a program.
type reader struct {
	cursor
}

func (r *reader) program() api.Program {
	if !strings.HasPrefix(r.data, magic) {
		r.fail(api.ErrMagic, 0)
	}
	r.at = len(magic)
	p := api.Program{Memory: r.count(), Counters: r.count(), Ins: r.count(), Outs: r.count()}
	p.Parts = row(r, api.MaxActors, r.part)
	p.Lines = row(r, api.MaxEdges, r.line)
	p.Ops = row(r, api.MaxOps, r.op)
	if r.at < len(r.data) {
		r.fail(api.ErrMore, r.at)
	}
	if e := Check(p); e != api.OK {
		r.fail(e, len(r.data))
	}
	return p
}

func (r *reader) part() api.Part {
	return api.Part{Tag: api.Tag(r.next()), Params: row(r, api.MaxParams, r.integer)}
}

func (r *reader) line() api.Line {
	region := api.Region{Base: r.count(), Size: r.count()}
	return api.Line{Region: region, Start: row(r, api.MaxMem, r.integer)}
}

func (r *reader) op() api.Op {
	return api.Op{Kind: api.OpKind(r.next()), A: r.count(), B: r.count()}
}

// many is how many follow, at most so many.
func (r *reader) many(most int) int {
	first := r.at
	n := r.count()
	if n > most {
		r.fail(api.ErrMany, first)
	}
	return n
}

// row is as many, at most so many, as are said to follow.
func row[T any](r *reader, most int, next func() T) []T {
	var all []T
	for range r.many(most) {
		all = append(all, next())
	}
	return all
}
