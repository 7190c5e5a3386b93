package net

import (
	"slices"

	"pianola/api"
)

// wiring is a net of a state's own, whose arcs are sorted by their ends once: each firing asks for them. Its fields are hidden, since a state that embeds it would show them, and could be changed by them.
type wiring struct {
	arcs []api.Arc
	ins  [][]int
	outs [][]int
}

// wired is the wiring of a sound net.
func wired(n api.Net) wiring {
	w := wiring{arcs: slices.Clone(n.Arcs), ins: make([][]int, n.Nodes), outs: make([][]int, n.Nodes)}
	for i, a := range n.Arcs {
		w.ins[a.To] = append(w.ins[a.To], i)
		w.outs[a.From] = append(w.outs[a.From], i)
	}
	return w
}

func (w *wiring) isNode(node int) bool { return within(node, 0, len(w.ins)-1) }

// inArcs are the places of the arcs that lead to a node, rising.
func (w *wiring) inArcs(node int) []int { return w.ins[node] }

// outArcs are the places of the arcs that lead away from a node, rising.
func (w *wiring) outArcs(node int) []int { return w.outs[node] }
