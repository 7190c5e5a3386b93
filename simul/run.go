package simul

import (
	"slices"

	"pianola/api"
	"pianola/net"
)

// noNode is a node that there is not.
const noNode = -1

// run is a period that is being built: a state, and what is still to be done in it.
type run struct {
	*net.State
	left  []int // how often each node is still to fire
	order []int // all nodes, each ahead of those that it is preferred to
}

// begun is a run at the start.
func begun(n api.Net, reps, prefer []int) (*run, api.Errno) {
	s, e := net.New(n)
	if e != api.OK {
		return nil, e
	}
	return &run{State: s, left: slices.Clone(reps), order: ranked(n.Nodes, prefer)}, api.OK
}

// ranked are all nodes, each once: those of prefer as they stand there first, then the others, falling.
func ranked(nodes int, prefer []int) []int {
	order := withNew(nil, prefer...)
	for node := nodes - 1; node >= 0; node-- {
		order = withNew(order, node)
	}
	return order
}

// withNew adds those nodes that are not there yet: however often a node is named, its first place is the one that counts.
func withNew(order []int, nodes ...int) []int {
	for _, node := range nodes {
		if !slices.Contains(order, node) {
			order = append(order, node)
		}
	}
	return order
}

// next is the node that fires next, or noNode.
func (r *run) next() int {
	for _, node := range r.order {
		if r.left[node] > 0 && r.May(node) {
			return node
		}
	}
	return noNode
}

// fireAll fires till none that is still to fire may; it tells which nodes fired.
func (r *run) fireAll() []int {
	var list []int
	for node := r.next(); node != noNode; node = r.next() {
		r.Fire(node)
		r.left[node]--
		list = append(list, node)
	}
	return list
}

// blocks are those of the nodes that are still to fire, none of which may.
func (r *run) blocks() []api.Block {
	var blocks []api.Block
	fired := r.Fired()
	for node, left := range r.left {
		if left > 0 {
			blocks = append(blocks, api.Block{Node: node, Fired: fired[node], Arc: r.Short(node)})
		}
	}
	return blocks
}
