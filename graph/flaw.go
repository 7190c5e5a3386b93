package graph

import (
	"pianola/api"
	"pianola/lex"
)

// flaw is what is wrong, and with what: the graph (kind 0), or the one of a kind that has a number, as a whole or at an end. Check needs its code alone; Build finds its place by the rest.
type flaw struct {
	code   api.Errno
	kind   api.ItemKind
	number int
	end    end
}

type end uint8

const (
	whole end = iota
	fromEnd
	toEnd
)

// firstFlaw is a graph's first one, in the order of P8.1; its code is OK, if there is none.
func firstFlaw(g api.Graph) flaw {
	f := flaw{code: headError(g)}
	l := ledger{names: map[string]int{}}
	if f.code == api.OK {
		f = actorFlaw(&l, g.Actors)
	}
	if f.code == api.OK {
		f = edgeFlaw(&l, g.Edges)
	}
	if f.code == api.OK {
		f = inFlaw(&l, g.Ins)
	}
	if f.code == api.OK {
		f = outFlaw(&l, g.Outs)
	}
	if f.code == api.OK {
		f = openFlaw(&l, g.Actors)
	}
	return f
}

func headError(g api.Graph) api.Errno {
	switch {
	case !lex.Name(g.Name):
		return api.ErrName
	case len(g.Actors) == 0:
		return api.ErrEmpty
	case len(g.Actors) > most(api.ActorItem), len(g.Edges) > most(api.EdgeItem):
		return api.ErrMany
	case len(g.Ins) > most(api.InItem), len(g.Outs) > most(api.OutItem):
		return api.ErrMany
	}
	return api.OK
}

// most is how many of a kind a graph may have.
func most(kind api.ItemKind) int {
	switch kind {
	case api.ActorItem:
		return api.MaxActors
	case api.EdgeItem:
		return api.MaxEdges
	}
	return api.MaxPorts
}

func actorFlaw(l *ledger, actors []api.Actor) flaw {
	for i, a := range actors {
		e := l.enter(a.Name)
		if e == api.OK {
			e = l.open(a)
		}
		if e != api.OK {
			return flaw{code: e, kind: api.ActorItem, number: i}
		}
	}
	return flaw{}
}

func edgeFlaw(l *ledger, edges []api.Edge) flaw {
	for i, edge := range edges {
		if e := l.outs.take(edge.From, edge.FromPort); e != api.OK {
			return flaw{code: e, kind: api.EdgeItem, number: i, end: fromEnd}
		}
		if e := l.ins.take(edge.To, edge.ToPort); e != api.OK {
			return flaw{code: e, kind: api.EdgeItem, number: i, end: toEnd}
		}
		if len(edge.Start) > api.MaxStart {
			return flaw{code: api.ErrStart, kind: api.EdgeItem, number: i}
		}
	}
	return flaw{}
}

func inFlaw(l *ledger, ins []api.Port) flaw {
	for i, in := range ins {
		if e := l.enter(in.Name); e != api.OK {
			return flaw{code: e, kind: api.InItem, number: i}
		}
		if e := l.ins.take(in.Actor, in.Port); e != api.OK {
			return flaw{code: e, kind: api.InItem, number: i, end: toEnd}
		}
	}
	return flaw{}
}

func outFlaw(l *ledger, outs []api.Port) flaw {
	for i, out := range outs {
		if e := l.enter(out.Name); e != api.OK {
			return flaw{code: e, kind: api.OutItem, number: i}
		}
		if e := l.outs.take(out.Actor, out.Port); e != api.OK {
			return flaw{code: e, kind: api.OutItem, number: i, end: fromEnd}
		}
	}
	return flaw{}
}

func openFlaw(l *ledger, actors []api.Actor) flaw {
	for i := range actors {
		if l.ins.gap(i) || l.outs.gap(i) {
			return flaw{code: api.ErrOpen, kind: api.ActorItem, number: i}
		}
	}
	return flaw{}
}
