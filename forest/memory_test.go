package forest_test

import (
	"slices"
	"testing"

	"pianola/api"
	"pianola/forest"
)

// scrawl writes into a list and into all the room behind it.
func scrawl[T any](list []T, with T) {
	list = list[:cap(list)]
	for i := range list {
		list[i] = with
	}
}

// room is how much lies behind a roomy net's arcs.
const room = 40

// roomy is the same net with room behind its arcs, in which lie sound arcs, no two alike, that would join everything.
func roomy(n api.Net) api.Net {
	var behind []api.Arc
	for i := range room {
		behind = append(behind, api.Arc{From: (i + 1) % max(1, n.Nodes), To: 0, Give: 3 + i, Take: 7, Start: 200 + i})
	}
	return api.Net{Nodes: n.Nodes, Arcs: slices.Concat(n.Arcs, behind)[:len(n.Arcs)]}
}

// TestNetIsLeft is R2: Of and Path leave the net and the room behind its arcs, and do not read that room.
func TestNetIsLeft(t *testing.T) {
	c := chance(211)
	for range 1500 {
		n := c.net()
		if c.below(4) == 0 {
			c.spoil(&n)
		}
		given, kept := roomy(n), roomy(n)
		want, code := forest.Of(n)
		if f, e := forest.Of(given); e != code || !sameForest(f, want) {
			t.Fatalf("%v: %v %v, not %v %v", n, f, e, want, code)
		}
		from, to := c.below(33), c.below(33)
		steps, e := forest.Path(n, from, to)
		pathIs(t, given, from, to, steps, e)
		if whole := len(n.Arcs) + room; !slices.Equal(given.Arcs[:whole], kept.Arcs[:whole]) {
			t.Fatalf("%v is now %v", kept.Arcs[:whole], given.Arcs[:whole])
		}
	}
}

// TestNothingIsKept is R2: what is written into the net or into an answer later is not seen in an answer, neither in one that is there nor in a later one.
func TestNothingIsKept(t *testing.T) {
	c := chance(212)
	for range 1500 {
		n := c.net()
		from, to := c.below(n.Nodes), c.below(n.Nodes)
		want := forestOf(n)
		path, code := pathOf(n, want, from, to)
		firstForest, secondForest := forestOK(t, n), forestOK(t, n)
		firstPath, _ := forest.Path(n, from, to)
		secondPath, _ := forest.Path(n, from, to)

		scrawl(firstForest.Tree, -7)
		if !slices.Equal(firstForest.Home, want.Home) {
			t.Fatal("Tree and Home share memory", n, firstForest)
		}
		scrawl(firstForest.Home, -8)
		scrawl(firstPath, api.Step{Arc: -9, Back: true})
		ofIs(t, n, want)
		pathIs(t, n, from, to, path, code)

		scrawl(n.Arcs, api.Arc{From: -7, To: -7, Give: -7, Take: -7, Start: -7})
		if !sameForest(secondForest, want) || !slices.Equal(secondPath, path) {
			t.Fatalf("%v %v, not %v %v", secondForest, secondPath, want, path)
		}
	}
}

// TestCallsAreApart is R2: calls do not hang on those ahead of them, of other nets and of nets that are refused.
func TestCallsAreApart(t *testing.T) {
	c := chance(213)
	for range 300 {
		other := c.net()
		c.spoil(&other)
		forest.Of(other)
		forest.Path(other, c.below(33), c.below(33))
		ofIs(t, five(), api.Forest{Tree: []int{0, 2, 4}, Home: []int{0, 0, 0, 3, 3}})
		pathIs(t, five(), 0, 2, []api.Step{along(0), back(2)}, api.OK)
	}
}
