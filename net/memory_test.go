package net_test

import (
	"slices"
	"testing"

	"pianola/api"
	"pianola/net"
)

// scrawl writes into a list and into all the room behind it.
func scrawl[T any](list []T, with T) {
	list = list[:cap(list)]
	for i := range list {
		list[i] = with
	}
}

// roomy is a list with room behind it, which is marked.
func roomy[T any](list []T, mark T) []T { return append(slices.Clone(list), mark, mark)[:len(list)] }

// marks are the two that lie behind a roomy list.
func marks[T any](list []T) []T { return list[len(list) : len(list)+2] }

var markArc = api.Arc{From: -7, To: -7, Give: -7, Take: -7, Start: -7}

// TestNetIsLeft is R2: Check and New leave the net, and the room behind its arcs, and do not read that room.
func TestNetIsLeft(t *testing.T) {
	c := chance(201)
	for range 2000 {
		plain := c.net()
		if c.below(2) == 0 {
			c.spoil(&plain)
		}
		n := api.Net{Nodes: plain.Nodes, Arcs: roomy(plain.Arcs, markArc)}
		checks(t, n, net.Check(plain))
		if s, e := net.New(n); e == api.OK {
			s.Fire(nodes(plain)...)
			s.Fire(nodes(plain)...)
		}
		if !sameNet(n, plain) || !slices.Equal(marks(n.Arcs), []api.Arc{markArc, markArc}) {
			t.Fatalf("%v is now %v, behind it %v", plain, n, marks(n.Arcs))
		}
	}
}

// TestStateIsApart is R2: what the caller changes in the net later, or in what a state told, is not seen in the state.
func TestStateIsApart(t *testing.T) {
	c := chance(202)
	for range 2000 {
		n := c.net()
		kept := api.Net{Nodes: n.Nodes, Arcs: slices.Clone(n.Arcs)}
		s, m := begun(t, n)
		m.n = kept
		row := c.row(kept)
		fires(t, s, m.fire(row...), row...)
		scrawl(n.Arcs, api.Arc{From: 1, To: 0, Give: 1, Take: 64, Start: 1})
		agrees(t, s, m)
		scrawl(s.Counts(), 1000)
		scrawl(s.Fired(), 1000)
		agrees(t, s, m)
		row = c.row(kept)
		fires(t, s, m.fire(row...), row...)
		agrees(t, s, m)
	}
}

// TestAnswersAreApart is R2: no two of what states tell share memory, and what was told stays when more fires.
func TestAnswersAreApart(t *testing.T) {
	s, _ := begun(t, pair())
	first, second, fired, again := s.Counts(), s.Counts(), s.Fired(), s.Fired()
	fires(t, s, 2, 0, 0)
	if !slices.Equal(first, []int{0, 4}) || !slices.Equal(fired, []int{0, 0}) {
		t.Error("what was told has changed", first, fired)
	}
	scrawl(first, 50)
	scrawl(fired, 60)
	if !slices.Equal(second, []int{0, 4}) || !slices.Equal(again, []int{0, 0}) {
		t.Error("two answers share memory", second, again)
	}
	if first[0] != 50 || first[1] != 50 {
		t.Error("Counts and Fired share memory", first)
	}
	has(t, s, []int{4, 0}, []int{2, 0})
}

// TestStatesAreApart is R2: states of the same net know nothing of one another.
func TestStatesAreApart(t *testing.T) {
	n := pair()
	first, _ := begun(t, n)
	second, _ := begun(t, n)
	fires(t, first, 2, 0, 0)
	has(t, second, []int{0, 4}, []int{0, 0})
	fires(t, second, 1, 0)
	has(t, first, []int{4, 0}, []int{2, 0})
	has(t, second, []int{2, 2}, []int{1, 0})
	third, _ := begun(t, n)
	has(t, third, []int{0, 4}, []int{0, 0})
}

// TestRowIsLeft is R2: Fire leaves the row and the room behind it, does not read that room, and does not keep the row.
func TestRowIsLeft(t *testing.T) {
	s, _ := begun(t, api.Net{Nodes: 2})
	row := roomy([]int{0, 1, 0, 5, 1}, 1)
	fires(t, s, 3, row...)
	if !slices.Equal(row, []int{0, 1, 0, 5, 1}) || !slices.Equal(marks(row), []int{1, 1}) {
		t.Error(row, marks(row))
	}
	row = roomy([]int{0, 1}, 1)
	fires(t, s, 2, row...)
	scrawl(row, 1)
	has(t, s, nil, []int{3, 2})
}

// TestGraphIsLeft is R2: Of leaves the graph and the room behind its lists, and what it answers shares no memory with it nor with another answer.
func TestGraphIsLeft(t *testing.T) {
	c := chance(203)
	for range 300 {
		plain := c.graph(1 + c.below(8))
		want := netOf(plain)
		g := plain
		g.Actors, g.Edges = roomy(plain.Actors, api.Actor{Tag: 99}), roomy(plain.Edges, api.Edge{From: 99})
		g.Ins, g.Outs = roomy(plain.Ins, api.Port{Port: 99}), roomy(plain.Outs, api.Port{Port: 99})
		for i := range g.Actors {
			g.Actors[i].Params = roomy(plain.Actors[i].Params, 99)
		}
		for i := range g.Edges {
			g.Edges[i].Start = roomy(plain.Edges[i].Start, 99)
		}
		first, e := net.Of(g)
		second, _ := net.Of(g)
		if e != api.OK || !sameNet(first, want) {
			t.Fatalf("Of(%v): %v %v", g, first, e)
		}
		scrawl(first.Arcs, markArc)
		if !sameNet(second, want) {
			t.Fatal("two answers share memory")
		}
		if !sameNet(netOf(g), want) || marks(g.Actors)[0].Tag != 99 || marks(g.Edges)[0].From != 99 || marks(g.Ins)[0].Port != 99 || marks(g.Outs)[0].Port != 99 {
			t.Fatal("Of changed the graph")
		}
		for i, a := range g.Actors {
			if !slices.Equal(a.Params, plain.Actors[i].Params) || !slices.Equal(marks(a.Params), []int{99, 99}) {
				t.Fatal("Of changed parameters")
			}
		}
		for i, edge := range g.Edges {
			if !slices.Equal(edge.Start, plain.Edges[i].Start) || !slices.Equal(marks(edge.Start), []int{99, 99}) {
				t.Fatal("Of changed tokens")
			}
			scrawl(edge.Start, 5)
		}
		scrawl(g.Edges, api.Edge{})
		if !sameNet(second, want) {
			t.Fatal("the answer shares memory with the graph")
		}
	}
}
