package forest_test

import (
	"slices"
	"testing"

	"pianola/api"
)

// outside are numbers that name no node of a net.
func outside(n api.Net) []int {
	return []int{least, least + 1, -1 << 32, -33, -1, n.Nodes, n.Nodes + 1, 33, 1 << 32, greatest - 1, greatest}
}

// TestExamplePath is P11.2: the chapter's examples.
func TestExamplePath(t *testing.T) {
	pathIs(t, five(), 0, 2, []api.Step{along(0), back(2)}, api.OK)
	pathIs(t, five(), 2, 0, []api.Step{along(2), back(0)}, api.OK)
	pathIs(t, five(), 3, 4, []api.Step{back(4)}, api.OK)
	pathIs(t, five(), 3, 3, nil, api.OK)
	pathIs(t, five(), 0, 3, nil, api.ErrApart)
	pathIs(t, five(), 0, 5, nil, api.ErrNode)
}

// TestPathByHand is P11.2: paths that can be told by looking; those along arcs that are not in the forest are shorter, and are not taken.
func TestPathByHand(t *testing.T) {
	pair := linked(2, ends{1, 0}, ends{0, 1}, ends{1, 0})
	pathIs(t, pair, 0, 1, []api.Step{back(0)}, api.OK)
	pathIs(t, pair, 1, 0, []api.Step{along(0)}, api.OK)

	around := linked(4, ends{0, 1}, ends{1, 2}, ends{2, 3}, ends{3, 0}, ends{0, 2})
	pathIs(t, around, 0, 3, []api.Step{along(0), along(1), along(2)}, api.OK)
	pathIs(t, around, 3, 0, []api.Step{back(2), back(1), back(0)}, api.OK)
	pathIs(t, around, 0, 2, []api.Step{along(0), along(1)}, api.OK)
	pathIs(t, around, 2, 1, []api.Step{back(1)}, api.OK)

	star := linked(5, ends{4, 0}, ends{1, 4}, ends{4, 4}, ends{2, 4}, ends{4, 3}, ends{0, 3})
	pathIs(t, star, 0, 3, []api.Step{back(0), along(4)}, api.OK)
	pathIs(t, star, 1, 2, []api.Step{along(1), back(3)}, api.OK)
	pathIs(t, star, 4, 2, []api.Step{back(3)}, api.OK)

	fork := linked(7, ends{3, 5}, ends{0, 1}, ends{1, 3}, ends{2, 1}, ends{3, 4}, ends{6, 4}) // at 1 and at 3 wrong turns come first
	pathIs(t, fork, 0, 6, []api.Step{along(1), along(2), along(4), back(5)}, api.OK)
	pathIs(t, fork, 6, 2, []api.Step{along(5), back(4), back(2), back(3)}, api.OK)
}

// TestPathToItself is P11.2: no step, whatever arcs there are.
func TestPathToItself(t *testing.T) {
	c := chance(114)
	for _, n := range manyNets(&c, 30) {
		for node := range n.Nodes {
			pathIs(t, n, node, node, nil, api.OK)
		}
	}
	pathIs(t, linked(1, ends{0, 0}), 0, 0, nil, api.OK)
}

// TestPathOfNoNode is P11.2: what names no node, as the one, as the other and as both (also twice the same), ahead of ErrApart.
func TestPathOfNoNode(t *testing.T) {
	for _, n := range []api.Net{linked(1), linked(1, ends{0, 0}), linked(4), five(), linked(32, ends{0, 31})} {
		for _, none := range outside(n) {
			if none >= 0 && none < n.Nodes {
				continue
			}
			for node := range n.Nodes {
				pathIs(t, n, node, none, nil, api.ErrNode)
				pathIs(t, n, none, node, nil, api.ErrNode)
			}
			pathIs(t, n, none, none, nil, api.ErrNode)
			for _, other := range []int{least, -1, n.Nodes, greatest} {
				pathIs(t, n, none, other, nil, api.ErrNode)
			}
		}
	}
}

// TestFirstError is P11.2: the net's error ahead of ErrNode and of ErrApart.
func TestFirstError(t *testing.T) {
	rate, start := five(), five()
	rate.Arcs[4].Take = 65
	start.Arcs[0].Start = -1
	for _, none := range []int{least, -1, 5, greatest} {
		refused(t, rate, none, 0, api.ErrRate)
		refused(t, rate, 0, none, api.ErrRate)
		refused(t, start, none, none, api.ErrStart)
		refused(t, linked(5, make([]ends, 97)...), none, 0, api.ErrMany)
	}
	refused(t, rate, 0, 3, api.ErrRate)
	refused(t, start, 3, 0, api.ErrStart)
	refused(t, linked(5, make([]ends, 97)...), 0, 3, api.ErrMany)
	refused(t, linked(0), 0, 0, api.ErrNode)
}

// TestApart is P11.2: nodes that are not joined, beside nodes that are.
func TestApart(t *testing.T) {
	n := linked(6, ends{0, 2}, ends{2, 4}, ends{4, 0}, ends{5, 3}, ends{3, 5}, ends{1, 1})
	for from := range 6 {
		for to := range 6 {
			apart := []int{0, 1, 0, 2, 0, 2}
			if apart[from] != apart[to] {
				pathIs(t, n, from, to, nil, api.ErrApart)
			}
		}
	}
	agrees(t, n)
	pathIs(t, linked(32), 0, 31, nil, api.ErrApart)
	pathIs(t, linked(32, slices.Repeat([]ends{{31, 31}, {0, 0}}, 48)...), 31, 0, nil, api.ErrApart)
}

// TestLongestPath is P11.2: a row of all nodes, its arcs in whatever order, each way.
func TestLongestPath(t *testing.T) {
	c := chance(115)
	for range 50 {
		order := upTo(31)
		mix(&c, order)
		n, want := api.Net{Nodes: 32, Arcs: make([]api.Arc, 31)}, []api.Step(nil)
		for node, arc := range order {
			two, step := ends{node, node + 1}, along(arc)
			if c.below(2) == 0 {
				two, step = ends{node + 1, node}, back(arc)
			}
			n.Arcs[arc] = linked(32, two).Arcs[0]
			want = append(want, step)
		}
		ofIs(t, n, api.Forest{Tree: upTo(31), Home: make([]int, 32)})
		pathIs(t, n, 0, 31, want, api.OK)
		pathIs(t, n, 31, 0, turned(want), api.OK)
		for range 60 {
			n.Arcs = append(n.Arcs, linked(32, ends{c.below(32), c.below(32)}).Arcs...) // none of these is in the forest
		}
		pathIs(t, n, 0, 31, want, api.OK)
		pathIs(t, n, 10, 21, want[10:21], api.OK)
	}
}
