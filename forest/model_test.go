package forest_test

import (
	"slices"
	"testing"

	"pianola/api"
	"pianola/forest"
)

const (
	least    = -9223372036854775808
	greatest = 9223372036854775807
)

// ends are an arc's From and To.
type ends [2]int

// linked is a net of arcs with these ends, each Give 1, Take 1, Start 0.
func linked(nodes int, all ...ends) api.Net {
	n := api.Net{Nodes: nodes}
	for _, e := range all {
		n.Arcs = append(n.Arcs, api.Arc{From: e[0], To: e[1], Give: 1, Take: 1})
	}
	return n
}

// along and back are steps.
func along(arc int) api.Step { return api.Step{Arc: arc} }

func back(arc int) api.Step { return api.Step{Arc: arc, Back: true} }

// upTo are the numbers from 0 on, so many.
func upTo(many int) []int {
	all := make([]int, many)
	for i := range all {
		all[i] = i
	}
	return all
}

// joined tells of each two nodes whether these arcs join them: whatever is joined to a third one is joined.
func joined(n api.Net, arcs []int) [][]bool {
	is := make([][]bool, n.Nodes)
	for i := range is {
		is[i] = make([]bool, n.Nodes)
		is[i][i] = true
	}
	for _, arc := range arcs {
		a := n.Arcs[arc]
		is[a.From][a.To], is[a.To][a.From] = true, true
	}
	for by := range is {
		for i := range is {
			for j := range is {
				is[i][j] = is[i][j] || is[i][by] && is[by][j]
			}
		}
	}
	return is
}

// forestOf is a sound net's forest as the words define it.
func forestOf(n api.Net) api.Forest {
	var f api.Forest
	is := joined(n, nil)
	for i, a := range n.Arcs {
		if !is[a.From][a.To] {
			f.Tree = append(f.Tree, i)
			is = joined(n, f.Tree)
		}
	}
	for _, row := range joined(n, upTo(len(n.Arcs))) {
		f.Home = append(f.Home, slices.Index(row, true))
	}
	return f
}

// pathOf is the path in a sound net's forest: what is left when each arc that hangs on nothing but the rest is taken away, put in order.
func pathOf(n api.Net, f api.Forest, from, to int) ([]api.Step, api.Errno) {
	if f.Home[from] != f.Home[to] {
		return nil, api.ErrApart
	}
	left := slices.Clone(f.Tree)
	touching := func(node int) (arcs []int) {
		for _, arc := range left {
			if n.Arcs[arc].From == node || n.Arcs[arc].To == node {
				arcs = append(arcs, arc)
			}
		}
		return arcs
	}
	for many := -1; many != len(left); {
		many = len(left)
		for node := range n.Nodes {
			if arcs := touching(node); len(arcs) == 1 && node != from && node != to {
				left = slices.DeleteFunc(left, func(arc int) bool { return arc == arcs[0] })
			}
		}
	}
	var steps []api.Step
	for at := from; at != to; {
		arc := touching(at)[0]
		a := n.Arcs[arc]
		left = slices.DeleteFunc(left, func(other int) bool { return other == arc })
		steps = append(steps, api.Step{Arc: arc, Back: a.To == at})
		at = a.From + a.To - at
	}
	return steps, api.OK
}

func sameForest(a, b api.Forest) bool {
	return slices.Equal(a.Tree, b.Tree) && slices.Equal(a.Home, b.Home)
}

// ofIs fails, unless Of answers this forest.
func ofIs(t *testing.T, n api.Net, want api.Forest) {
	t.Helper()
	if f, e := forest.Of(n); e != api.OK || !sameForest(f, want) {
		t.Fatalf("Of(%v): %v %v, not %v", n, f, e, want)
	}
}

// pathIs fails, unless Path answers this.
func pathIs(t *testing.T, n api.Net, from, to int, want []api.Step, code api.Errno) {
	t.Helper()
	if steps, e := forest.Path(n, from, to); e != code || !slices.Equal(steps, want) {
		t.Fatalf("Path(%v, %d, %d): %v %v, not %v %v", n, from, to, steps, e, want, code)
	}
}

// agrees fails, unless Of and all paths are those of the model.
func agrees(t *testing.T, n api.Net) {
	t.Helper()
	f := forestOf(n)
	ofIs(t, n, f)
	for from := range n.Nodes {
		for to := range n.Nodes {
			steps, code := pathOf(n, f, from, to)
			pathIs(t, n, from, to, steps, code)
		}
	}
}

// refused fails, unless Of and Path, of these two nodes, answer this error and nothing beside it.
func refused(t *testing.T, n api.Net, from, to int, code api.Errno) {
	t.Helper()
	if f, e := forest.Of(n); e != code || len(f.Tree) != 0 || len(f.Home) != 0 {
		t.Fatalf("Of(%v): %v %v, not %v", n, f, e, code)
	}
	pathIs(t, n, from, to, nil, code)
}
