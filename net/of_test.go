package net_test

import (
	"slices"
	"strconv"
	"testing"

	"pianola/api"
	"pianola/graph"
	"pianola/net"
	"pianola/source"
)

// read is the graph of a text.
func read(t *testing.T, text string) api.Graph {
	t.Helper()
	g, err := source.Parse(text)
	if err != nil {
		t.Fatalf("Parse(%q): %#v", text, err)
	}
	return g
}

// gives fails, unless Of answers this net, or a net of noughts and this error.
func gives(t *testing.T, g api.Graph, want api.Net, code api.Errno) {
	t.Helper()
	if n, e := net.Of(g); e != code || !sameNet(n, want) {
		t.Errorf("Of actors %v: %v %v, not %v %v", g.Actors, n, e, want, code)
	}
}

// TestOf is P10.2: ports of unlike rates, several edges between the same two actors, an edge from an actor to itself, tokens at the start; inputs and outputs do not count.
func TestOf(t *testing.T) {
	for _, c := range []struct {
		text string
		want api.Net
	}{
		{"graph g { actor a = sum; in x -> a.0; out a.0 -> y; }", api.Net{Nodes: 1}},
		{"graph g { actor a = up 2; actor b = down 3; edge a.0 -> b.0; in x -> a.0; out b.0 -> y; }",
			api.Net{Nodes: 2, Arcs: []api.Arc{{From: 0, To: 1, Give: 2, Take: 3}}}},
		{"graph g { actor b = down 3; actor a = up 2; edge a.0 -> b.0 with 7 8; in x -> a.0; out b.0 -> y; }",
			api.Net{Nodes: 2, Arcs: []api.Arc{{From: 1, To: 0, Give: 2, Take: 3, Start: 2}}}},
		{"graph g { actor a = sum; edge a.0 -> a.0; }", api.Net{Nodes: 1, Arcs: []api.Arc{{Give: 1, Take: 1}}}},
		{"graph g { actor a = up 5; edge a.0 -> a.0 with 0 0 0; }", api.Net{Nodes: 1, Arcs: []api.Arc{{Give: 5, Take: 1, Start: 3}}}},
		{"graph g { actor a = down 64; edge a.0 -> a.0 with -1; }", api.Net{Nodes: 1, Arcs: []api.Arc{{Give: 1, Take: 64, Start: 1}}}},
		{"graph g { actor t = tick 1 1; actor d = drop 7; edge t.0 -> d.0; }", api.Net{Nodes: 2, Arcs: []api.Arc{{From: 0, To: 1, Give: 1, Take: 7}}}},
		{"graph g { actor u = unweave 3 4; actor w = weave 3 5; edge u.2 -> w.0; edge u.0 -> w.1 with 1; edge w.0 -> u.0 with 1 2; edge u.1 -> w.2; }",
			api.Net{Nodes: 2, Arcs: []api.Arc{{From: 0, To: 1, Give: 4, Take: 5}, {From: 0, To: 1, Give: 4, Take: 5, Start: 1}, {From: 1, To: 0, Give: 15, Take: 12, Start: 2}, {From: 0, To: 1, Give: 4, Take: 5}}}},
		{"graph g { actor q = quot; actor c = copy 2; edge c.1 -> q.0; edge q.0 -> c.0 with 9; edge c.0 -> q.1; }",
			api.Net{Nodes: 2, Arcs: []api.Arc{{From: 1, To: 0, Give: 1, Take: 1}, {From: 0, To: 1, Give: 1, Take: 1, Start: 1}, {From: 1, To: 0, Give: 1, Take: 1}}}},
		{"graph g { actor f = filter 3 4; actor a = add 2; actor u = up 64; actor d = down 64; edge u.0 -> d.0; edge d.0 -> a.1; edge a.0 -> f.0; edge f.0 -> u.0; in x -> a.0; }",
			api.Net{Nodes: 4, Arcs: []api.Arc{{From: 2, To: 3, Give: 64, Take: 64}, {From: 3, To: 1, Give: 1, Take: 1}, {From: 1, To: 0, Give: 1, Take: 1}, {From: 0, To: 2, Give: 1, Take: 1}}}},
	} {
		gives(t, read(t, c.text), c.want, api.OK)
	}
}

// TestOfStart is P10.2: how many tokens an edge has at the start counts, not which; one more than there may be is refused.
func TestOfStart(t *testing.T) {
	g := read(t, "graph g { actor a = sum; edge a.0 -> a.0; }")
	for many := range 257 {
		g.Edges[0].Start = make([]int, many)
		gives(t, g, api.Net{Nodes: 1, Arcs: []api.Arc{{Give: 1, Take: 1, Start: many}}}, api.OK)
		for i := range g.Edges[0].Start {
			g.Edges[0].Start[i] = []int{least, -1, 300, greatest}[i%4]
		}
		gives(t, g, api.Net{Nodes: 1, Arcs: []api.Arc{{Give: 1, Take: 1, Start: many}}}, api.OK)
	}
	g.Edges[0].Start = make([]int, 257)
	gives(t, g, api.Net{}, api.ErrStart)
}

// TestOfRefused is P10.2: each kind of graph that graph.Check refuses has its error, and a net of noughts beside it.
func TestOfRefused(t *testing.T) {
	for i, c := range []struct {
		spoil func(g *api.Graph)
		want  api.Errno
	}{
		{func(g *api.Graph) { *g = api.Graph{} }, api.ErrName},
		{func(g *api.Graph) { g.Name = "" }, api.ErrName},
		{func(g *api.Graph) { g.Actors = nil }, api.ErrEmpty},
		{func(g *api.Graph) { g.Actors = make([]api.Actor, 33) }, api.ErrMany},
		{func(g *api.Graph) { g.Edges = make([]api.Edge, 97) }, api.ErrMany},
		{func(g *api.Graph) { g.Ins = make([]api.Port, 17) }, api.ErrMany},
		{func(g *api.Graph) { g.Outs = make([]api.Port, 17) }, api.ErrMany},
		{func(g *api.Graph) { g.Actors[1].Name = "B" }, api.ErrName},
		{func(g *api.Graph) { g.Actors[1].Name = "a" }, api.ErrTwice},
		{func(g *api.Graph) { g.Actors[0].Tag = 0 }, api.ErrTag},
		{func(g *api.Graph) { g.Actors[0].Tag = 12 }, api.ErrTag},
		{func(g *api.Graph) { g.Actors[0].Params = []int{65} }, api.ErrParams},
		{func(g *api.Graph) { g.Actors[0].Params = nil }, api.ErrParams},
		{func(g *api.Graph) { g.Edges[0].From = -1 }, api.ErrActor},
		{func(g *api.Graph) { g.Edges[0].To = 2 }, api.ErrActor},
		{func(g *api.Graph) { g.Edges[0].FromPort = 1 }, api.ErrPort},
		{func(g *api.Graph) { g.Edges[0].ToPort = greatest }, api.ErrPort},
		{func(g *api.Graph) { g.Edges = append(g.Edges, g.Edges[0]) }, api.ErrTaken},
		{func(g *api.Graph) { g.Edges[0].Start = make([]int, 257) }, api.ErrStart},
		{func(g *api.Graph) { g.Ins[0].Name = "a" }, api.ErrTwice},
		{func(g *api.Graph) { g.Ins[0].Actor = least }, api.ErrActor},
		{func(g *api.Graph) { g.Outs[0].Port = -1 }, api.ErrPort},
		{func(g *api.Graph) { g.Outs[0].Actor = 0 }, api.ErrTaken},
		{func(g *api.Graph) { g.Ins = nil }, api.ErrOpen},
		{func(g *api.Graph) { g.Outs = nil }, api.ErrOpen},
		{func(g *api.Graph) { g.Edges = nil }, api.ErrOpen},
	} {
		g := read(t, "graph g { actor a = up 2; actor b = down 3; edge a.0 -> b.0 with 1 2; in x -> a.0; out b.0 -> y; }")
		c.spoil(&g)
		if e := graph.Check(g); e != c.want {
			t.Errorf("%d: graph.Check: %v, not %v", i, e, c.want)
		}
		gives(t, g, api.Net{}, c.want)
	}
}

// greatestGraph has 32 actors, 96 edges of 256 tokens, 16 inputs and 16 outputs.
func greatestGraph() api.Graph {
	g := api.Graph{Name: "g"}
	for _, some := range []struct {
		many   int
		tag    api.Tag
		params []int
	}{
		{5, api.Unweave, []int{16, 4}}, {5, api.Weave, []int{16, 4}},
		{5, api.Unweave, []int{2, 32}}, {5, api.Weave, []int{2, 32}},
		{6, api.Up, []int{64}}, {6, api.Down, []int{64}},
	} {
		for range some.many {
			g.Actors = append(g.Actors, api.Actor{Name: "a" + strconv.Itoa(len(g.Actors)), Tag: some.tag, Params: some.params})
		}
	}
	ins, outs := openPorts(g)
	g.Ins, g.Outs = ins[:16], outs[:16]
	for i, to := range ins[16:] {
		g.Edges = append(g.Edges, edge(outs[16+i], to, 256))
	}
	return g
}

// TestGreatestGraph is P10.2 at all limits at once.
func TestGreatestGraph(t *testing.T) {
	g := greatestGraph()
	if e := graph.Check(g); e != api.OK || len(g.Actors) != 32 || len(g.Edges) != 96 || len(g.Ins) != 16 || len(g.Outs) != 16 {
		t.Fatal(e, len(g.Actors), len(g.Edges), len(g.Ins), len(g.Outs))
	}
	gives(t, g, netOf(g), api.OK)
	n, _ := net.Of(g)
	checks(t, n, api.OK)
}

// TestMixedGraphs is P10.2: graphs of all kinds of actors, sound ones and ones with some things changed, against a model of the rates; the net of a sound one is sound.
func TestMixedGraphs(t *testing.T) {
	c := chance(102)
	refused := 0
	for range 5000 {
		g := c.graph(1 + c.below(10))
		gives(t, g, netOf(g), api.OK)
		checks(t, netOf(g), api.OK)
		for range 1 + c.below(2) {
			c.spoilGraph(&g)
		}
		if e := graph.Check(g); e != api.OK {
			refused++
			gives(t, g, api.Net{}, e)
		} else {
			gives(t, g, netOf(g), api.OK)
		}
		if t.Failed() {
			return
		}
	}
	if refused < 1000 {
		t.Errorf("%d graphs only were refused", refused)
	}
}

// TestPortsDoNotCount is P10.2: what is on a graph's inputs and outputs, and the names, change nothing.
func TestPortsDoNotCount(t *testing.T) {
	first := read(t, "graph g { actor a = add 3; actor c = copy 3; edge a.0 -> c.0; in x -> a.0; in y -> a.1; in z -> a.2; out c.0 -> p; out c.1 -> q; out c.2 -> r; }")
	second := read(t, "graph h { actor b = add 1; actor d = copy 1; edge b.0 -> d.0; in u -> b.0; out d.0 -> v; }")
	n, _ := net.Of(first)
	m, _ := net.Of(second)
	if !sameNet(n, m) || !slices.Equal(n.Arcs, []api.Arc{{From: 0, To: 1, Give: 1, Take: 1}}) {
		t.Error(n, m)
	}
}
