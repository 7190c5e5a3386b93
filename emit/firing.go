package emit

import (
	"slices"

	"pianola/api"
	"pianola/shape"
)

// spot is a port of an actor, on one side.
type spot struct {
	actor int
	port  int
}

// has tells whether an input or an output is on it.
func (s spot) has(p api.Port) bool { return s == spot{p.Actor, p.Port} }

// firings are, of each actor of a sound graph, the operations of a firing.
func firings(g api.Graph) [][]api.Op {
	all := make([][]api.Op, len(g.Actors))
	for actor := range g.Actors {
		all[actor] = firing(g, actor)
	}
	return all
}

func firing(g api.Graph, actor int) []api.Op {
	a := g.Actors[actor]
	takes, gives, _ := shape.Of(a.Tag, a.Params...) // of a sound graph each actor has a shape
	var ops []api.Op
	for port, rate := range takes {
		ops = append(ops, intake(g, spot{actor, port}, rate))
	}
	ops = append(ops, api.Op{Kind: api.OpCall, A: actor})
	for port, rate := range gives {
		ops = append(ops, outlet(g, spot{actor, port}, rate))
	}
	return ops
}

// intake gets the tokens of an in-port; if no edge is on it, an input is.
func intake(g api.Graph, at spot, rate int) api.Op {
	edge := slices.IndexFunc(g.Edges, func(e api.Edge) bool { return at == spot{e.To, e.ToPort} })
	if edge >= 0 {
		return api.Op{Kind: api.OpTake, A: edge, B: rate}
	}
	return api.Op{Kind: api.OpRead, A: slices.IndexFunc(g.Ins, at.has), B: rate}
}

// outlet passes on the tokens of an out-port; if no edge is on it, an output is.
func outlet(g api.Graph, at spot, rate int) api.Op {
	edge := slices.IndexFunc(g.Edges, func(e api.Edge) bool { return at == spot{e.From, e.FromPort} })
	if edge >= 0 {
		return api.Op{Kind: api.OpGive, A: edge, B: rate}
	}
	return api.Op{Kind: api.OpWrite, A: slices.IndexFunc(g.Outs, at.has), B: rate}
}
