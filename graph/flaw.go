package graph

import (
	"pianola/api"
	"pianola/lex"
)

// flaw is what is wrong, and with what: the graph (kind 0), or the one of a kind that has a number, as a whole or at an end. Check needs its code alone; Build finds its place by the rest.
type flaw struct {
	code   api.Errno
	kind   api.ItemKind
	number int
	end    end
}

type end uint8

const (
	whole end = iota
	fromEnd
	toEnd
)

// firstFlaw is a graph's first one, in the order of P8.1; its code is OK, if there is none.
func firstFlaw(g api.Graph) flaw {
	f := headFlaw(g)
	l := ledger{names: map[string]int{}}
	if f.code == api.OK {
		f = actorFlaw(&l, g.Actors)
	}
	if f.code == api.OK {
		f = edgeFlaw(&l, g.Edges)
	}
	if f.code == api.OK {
		f = inFlaw(&l, g.Ins)
	}
	if f.code == api.OK {
		f = outFlaw(&l, g.Outs)
	}
	if f.code == api.OK {
		f = openFlaw(&l, g.Actors)
	}
	return f
}

func headFlaw(g api.Graph) flaw {
	switch {
	case !lex.Name(g.Name):
		return flaw{code: api.ErrName}
	case len(g.Actors) == 0:
		return flaw{code: api.ErrEmpty}
	case len(g.Actors) > api.MaxActors:
		return surplus(api.ActorItem, api.MaxActors)
	case len(g.Edges) > api.MaxEdges:
		return surplus(api.EdgeItem, api.MaxEdges)
	case len(g.Ins) > api.MaxPorts:
		return surplus(api.InItem, api.MaxPorts)
	case len(g.Outs) > api.MaxPorts:
		return surplus(api.OutItem, api.MaxPorts)
	}
	return flaw{}
}

// surplus is of the first one too many of a kind: numbers count from 0 on, so that its number is how many there may be.
func surplus(kind api.ItemKind, most int) flaw {
	return flaw{code: api.ErrMany, kind: kind, number: most}
}

func actorFlaw(l *ledger, actors []api.Actor) flaw {
	for i, a := range actors {
		e := l.enter(a.Name)
		if e == api.OK {
			e = l.open(a)
		}
		if e != api.OK {
			return flaw{code: e, kind: api.ActorItem, number: i}
		}
	}
	return flaw{}
}

func edgeFlaw(l *ledger, edges []api.Edge) flaw {
	for i, edge := range edges {
		if e := l.outs.take(edge.From, edge.FromPort); e != api.OK {
			return flaw{code: e, kind: api.EdgeItem, number: i, end: fromEnd}
		}
		if e := l.ins.take(edge.To, edge.ToPort); e != api.OK {
			return flaw{code: e, kind: api.EdgeItem, number: i, end: toEnd}
		}
		if len(edge.Start) > api.MaxStart {
			return flaw{code: api.ErrStart, kind: api.EdgeItem, number: i}
		}
	}
	return flaw{}
}

func inFlaw(l *ledger, ins []api.Port) flaw {
	for i, in := range ins {
		if e := l.enter(in.Name); e != api.OK {
			return flaw{code: e, kind: api.InItem, number: i}
		}
		if e := l.ins.take(in.Actor, in.Port); e != api.OK {
			return flaw{code: e, kind: api.InItem, number: i, end: toEnd}
		}
	}
	return flaw{}
}

func outFlaw(l *ledger, outs []api.Port) flaw {
	for i, out := range outs {
		if e := l.enter(out.Name); e != api.OK {
			return flaw{code: e, kind: api.OutItem, number: i}
		}
		if e := l.outs.take(out.Actor, out.Port); e != api.OK {
			return flaw{code: e, kind: api.OutItem, number: i, end: fromEnd}
		}
	}
	return flaw{}
}

func openFlaw(l *ledger, actors []api.Actor) flaw {
	for i := range actors {
		if l.ins.gap(i) || l.outs.gap(i) {
			return flaw{code: api.ErrOpen, kind: api.ActorItem, number: i}
		}
	}
	return flaw{}
}
