package net_test

import (
	"slices"
	"testing"

	"pianola/api"
	"pianola/net"
)

const (
	least    = -9223372036854775808
	greatest = 9223372036854775807
)

// flaw is one of a net: which arc it is of (-1: of the net), and which of the things that are asked one by one.
type flaw struct {
	arc, rank int
	code      api.Errno
}

// flaws are all that is wrong with a net, in whatever order.
func flaws(n api.Net) []flaw {
	var all []flaw
	note := func(arc, rank int, code api.Errno, wrong bool) {
		if wrong {
			all = append(all, flaw{arc, rank, code})
		}
	}
	for i, a := range n.Arcs {
		note(i, 2, api.ErrStart, a.Start < 0 || a.Start > 256)
		note(i, 1, api.ErrRate, a.Give < 1 || a.Give > 64)
		note(i, 1, api.ErrRate, a.Take < 1 || a.Take > 64)
		note(i, 0, api.ErrNode, a.From < 0 || a.From >= n.Nodes)
		note(i, 0, api.ErrNode, a.To < 0 || a.To >= n.Nodes)
	}
	note(-1, 1, api.ErrMany, len(n.Arcs) > 96)
	note(-1, 0, api.ErrNode, n.Nodes < 1 || n.Nodes > 32)
	return all
}

// firstFlaw is the one that P10.1 names first: of the net ahead of the arcs, of an earlier arc ahead of a later one.
func firstFlaw(n api.Net) api.Errno {
	all := flaws(n)
	if len(all) == 0 {
		return api.OK
	}
	return slices.MinFunc(all, func(a, b flaw) int { return 10*(a.arc-b.arc) + a.rank - b.rank }).code
}

// giveOf and takeOf are the rate of each of an actor's out-ports and in-ports: those of one side are alike.
func giveOf(a api.Actor) int {
	switch a.Tag {
	case api.Up:
		return a.Params[0]
	case api.Weave:
		return a.Params[0] * a.Params[1]
	case api.Unweave:
		return a.Params[1]
	}
	return 1
}

func takeOf(a api.Actor) int {
	switch a.Tag {
	case api.Down, api.Drop:
		return a.Params[0]
	case api.Weave:
		return a.Params[1]
	case api.Unweave:
		return a.Params[0] * a.Params[1]
	}
	return 1
}

// netOf is the net of a sound graph.
func netOf(g api.Graph) api.Net {
	n := api.Net{Nodes: len(g.Actors), Arcs: make([]api.Arc, len(g.Edges))}
	for i, e := range g.Edges {
		n.Arcs[i] = api.Arc{From: e.From, To: e.To, Give: giveOf(g.Actors[e.From]), Take: takeOf(g.Actors[e.To]), Start: len(e.Start)}
	}
	return n
}

func sameNet(a, b api.Net) bool { return a.Nodes == b.Nodes && slices.Equal(a.Arcs, b.Arcs) }

// model is a state that knows how often each node has fired, and nothing of tokens: it reckons them by P10.7.
type model struct {
	n     api.Net
	fired []int
}

func modelOf(n api.Net) *model { return &model{n, make([]int, n.Nodes)} }

func (m *model) counts() []int {
	counts := make([]int, len(m.n.Arcs))
	for i, a := range m.n.Arcs {
		counts[i] = a.Start + a.Give*m.fired[a.From] - a.Take*m.fired[a.To]
	}
	return counts
}

func (m *model) short(node int) int {
	counts := m.counts()
	return slices.IndexFunc(m.n.Arcs, func(a api.Arc) bool {
		has := counts[0]
		counts = counts[1:]
		return a.To == node && has < a.Take
	})
}

func (m *model) may(node int) bool { return node >= 0 && node < m.n.Nodes && m.short(node) == -1 }

func (m *model) fire(nodes ...int) int {
	for i, node := range nodes {
		if !m.may(node) {
			return i
		}
		m.fired[node]++
	}
	return len(nodes)
}

// begun is a state at the start, and its model.
func begun(t *testing.T, n api.Net) (*net.State, *model) {
	t.Helper()
	s, e := net.New(n)
	if e != api.OK || s == nil {
		t.Fatalf("New(%v): %v %v", n, s, e)
	}
	return s, modelOf(n)
}

// agrees fails, unless the state tells all that the model tells.
func agrees(t *testing.T, s *net.State, m *model) {
	t.Helper()
	has(t, s, m.counts(), m.fired)
	for _, node := range append([]int{least, -1, m.n.Nodes, greatest}, nodes(m.n)...) {
		if s.May(node) != m.may(node) || s.Short(node) != m.short(node) {
			t.Fatalf("%v fired %v: May(%d) is %v, Short %d, not %v, %d", m.n, m.fired, node, s.May(node), s.Short(node), m.may(node), m.short(node))
		}
	}
}

// has fails, unless these are a state's counts.
func has(t *testing.T, s *net.State, counts, fired []int) {
	t.Helper()
	if c, f := s.Counts(), s.Fired(); !slices.Equal(c, counts) || !slices.Equal(f, fired) {
		t.Fatalf("Counts %v, Fired %v, not %v, %v", c, f, counts, fired)
	}
}

// fires fails, unless so many fire.
func fires(t *testing.T, s *net.State, want int, row ...int) {
	t.Helper()
	if got := s.Fire(row...); got != want {
		t.Fatalf("Fire(%v): %d, not %d", row, got, want)
	}
}

// nodes are all of a net.
func nodes(n api.Net) []int {
	all := make([]int, n.Nodes)
	for i := range all {
		all[i] = i
	}
	return all
}
