package forest_test

import (
	"slices"
	"testing"

	"pianola/api"
	"pianola/forest"
)

// turned is a path the other way round, each step turned about.
func turned(steps []api.Step) []api.Step {
	var other []api.Step
	for _, step := range slices.Backward(steps) {
		other = append(other, api.Step{Arc: step.Arc, Back: !step.Back})
	}
	return other
}

// forestOK is Of's forest of a sound net.
func forestOK(t *testing.T, n api.Net) api.Forest {
	t.Helper()
	f, e := forest.Of(n)
	if e != api.OK {
		t.Fatalf("Of(%v): %v", n, e)
	}
	return f
}

// TestSameHome is P11.3: two nodes are joined by the forest just if they are by all arcs, just if they have the same Home, and just if there is a path.
func TestSameHome(t *testing.T) {
	c := chance(116)
	for _, n := range manyNets(&c, 150) {
		f := forestOK(t, n)
		byTree, byAll := joined(n, f.Tree), joined(n, upTo(len(n.Arcs)))
		for i := range n.Nodes {
			for j := range n.Nodes {
				_, e := forest.Path(n, i, j)
				same := f.Home[i] == f.Home[j]
				if byTree[i][j] != same || byAll[i][j] != same || (e == api.OK) != same {
					t.Fatalf("%v: %d and %d: by the forest %v, by all %v, homes %v, path %v", n, i, j, byTree[i][j], byAll[i][j], same, e)
				}
			}
			if home := f.Home[i]; home > i || f.Home[home] != home {
				t.Fatalf("%v: the home of %d is %d", n, i, home)
			}
		}
	}
}

// TestManyInForest is P11.3: as many arcs in the forest as nodes less components, rising.
func TestManyInForest(t *testing.T) {
	c := chance(117)
	for _, n := range manyNets(&c, 400) {
		f := forestOK(t, n)
		components := 0
		for node, row := range joined(n, upTo(len(n.Arcs))) {
			if slices.Index(row, true) == node {
				components++
			}
		}
		if len(f.Tree) != n.Nodes-components || len(f.Home) != n.Nodes {
			t.Fatalf("%v: %v, of %d components", n, f, components)
		}
		for i := 1; i < len(f.Tree); i++ {
			if f.Tree[i-1] >= f.Tree[i] {
				t.Fatalf("%v: %v does not rise", n, f.Tree)
			}
		}
	}
}

// TestNoCycle is P11.3: no cycle is in the forest: without one of its arcs, that arc's ends are not joined.
func TestNoCycle(t *testing.T) {
	c := chance(118)
	for _, n := range manyNets(&c, 60) {
		f := forestOK(t, n)
		for i, arc := range f.Tree {
			rest := slices.Delete(slices.Clone(f.Tree), i, i+1)
			if a := n.Arcs[arc]; joined(n, rest)[a.From][a.To] {
				t.Fatalf("%v: arc %d closes a cycle in %v", n, arc, f.Tree)
			}
		}
	}
}

// visited are the nodes that a path comes by, from its start on; it fails, if a step does not start where the one ahead ended.
func visited(t *testing.T, n api.Net, from int, steps []api.Step) []int {
	t.Helper()
	nodes := []int{from}
	for _, step := range steps {
		a := n.Arcs[step.Arc]
		if step.Back {
			a.From, a.To = a.To, a.From
		}
		if a.From != nodes[len(nodes)-1] {
			t.Fatalf("%v: %v from %d on is no path", n, steps, from)
		}
		nodes = append(nodes, a.To)
	}
	return nodes
}

func twice(list []int) bool {
	sorted := slices.Sorted(slices.Values(list))
	return len(slices.Compact(sorted)) < len(list)
}

// TestPathsFollow is P11.2 and P11.3: a path is one, from the one to the other, along the forest, with no arc and no node twice; the other way round it is the same one, turned.
func TestPathsFollow(t *testing.T) {
	c := chance(119)
	longest := 0
	for _, n := range manyNets(&c, 150) {
		f := forestOK(t, n)
		for from := range n.Nodes {
			for to := range n.Nodes {
				steps, e := forest.Path(n, from, to)
				nodes := visited(t, n, from, steps)
				if e == api.OK && nodes[len(nodes)-1] != to || twice(nodes) {
					t.Fatalf("%v: from %d to %d by %v", n, from, to, nodes)
				}
				var arcs []int
				for _, step := range steps {
					arcs = append(arcs, step.Arc)
				}
				if twice(arcs) || slices.ContainsFunc(arcs, func(arc int) bool { return !slices.Contains(f.Tree, arc) }) {
					t.Fatalf("%v: from %d to %d along %v, not of %v", n, from, to, arcs, f.Tree)
				}
				pathIs(t, n, to, from, turned(steps), e)
				longest = max(longest, len(steps))
			}
		}
	}
	if longest != 31 {
		t.Errorf("no path was longer than %d", longest)
	}
}
