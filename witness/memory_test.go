package witness_test

import (
	"slices"
	"testing"

	"pianola/api"
	"pianola/net"
	"pianola/witness"
)

// scrawl writes into a list and into all the room behind it.
func scrawl[T any](list []T, with T) {
	list = list[:cap(list)]
	for i := range list {
		list[i] = with
	}
}

// room is how much lies behind a roomy list.
const room = 40

// roomy is the same list with room behind it, in which these lie.
func roomy[T any](list []T, behind func(i int) T) []T {
	long := slices.Clone(list)
	for i := range room {
		long = append(long, behind(i))
	}
	return long[:len(list)]
}

// roomyNet has sound arcs behind its own, no two alike.
func roomyNet(n api.Net) api.Net {
	return api.Net{Nodes: n.Nodes, Arcs: roomy(n.Arcs, func(i int) api.Arc {
		return api.Arc{From: i % max(1, n.Nodes), Give: 3 + i, Take: 7, Start: 200 + i}
	})}
}

// roomySteps have sound steps behind them.
func roomySteps(steps []api.Step) []api.Step {
	return roomy(steps, func(i int) api.Step { return api.Step{Arc: i, Back: i%2 == 0} })
}

// TestGivenIsLeft is R2: both calls leave the net, the steps and the room behind them, and do not read that room (an arc that lies there is none, a step that lies there is not taken).
func TestGivenIsLeft(t *testing.T) {
	c := chance(221)
	for round := range 2000 {
		n, steps := c.cycle(1+round%32, c.below(2) == 0)
		switch c.below(4) {
		case 0:
			c.spoil(&n)
		case 1:
			steps = append(steps, along(len(n.Arcs)+c.below(room)))
		case 2:
			steps = steps[:len(steps)-1]
		}
		given, kept := roomyNet(n), roomyNet(n)
		row, keptRow := roomySteps(steps), roomySteps(steps)
		if e := net.Check(n); e == api.OK {
			agrees(t, given, row)
		} else {
			refused(t, given, row, e)
		}
		if whole := len(n.Arcs) + room; !slices.Equal(given.Arcs[:whole], kept.Arcs[:whole]) {
			t.Fatalf("%v is now %v", kept.Arcs[:whole], given.Arcs[:whole])
		}
		if whole := len(steps) + room; !slices.Equal(row[:whole], keptRow[:whole]) {
			t.Fatalf("%v is now %v", keptRow[:whole], row[:whole])
		}
	}
}

// TestNothingIsKept is R2: the two lists are new memory and share none; what is written into the net, the steps or an answer later is not seen in an answer, neither in one that is there nor in a later one.
func TestNothingIsKept(t *testing.T) {
	c := chance(222)
	for round := range 2000 {
		n, steps := c.cycle(1+round%32, c.below(2) == 0)
		with, against := productsOf(n, steps)
		code := verdict(n, steps)
		first, firstAgainst, _ := witness.Products(n, steps...)
		second, secondAgainst, _ := witness.Products(n, steps...)

		scrawl(first, -7)
		if !slices.Equal(firstAgainst, against) {
			t.Fatal("the two lists share memory", n, steps)
		}
		scrawl(firstAgainst, -8)
		productsAre(t, n, steps, with, against, api.OK)
		confirmIs(t, n, steps, code)

		scrawl(n.Arcs, api.Arc{From: -7, To: -7, Give: -7, Take: -7, Start: -7})
		scrawl(steps, api.Step{Arc: -9, Back: true})
		if !slices.Equal(second, with) || !slices.Equal(secondAgainst, against) {
			t.Fatalf("%v %v, not %v %v", second, secondAgainst, with, against)
		}
	}
}

// TestCallsAreApart is R2: calls do not hang on those ahead of them, of other nets and of nets and steps that are refused.
func TestCallsAreApart(t *testing.T) {
	c := chance(223)
	for range 300 {
		other := c.net()
		c.spoil(&other)
		steps := c.steps(other, c.below(100))
		witness.Products(other, steps...)
		witness.Confirm(other, steps...)
		productsAre(t, three(), []api.Step{along(0), along(1), back(2)}, []int{2, 3, 1}, []int{3, 1, 1}, api.OK)
		confirmIs(t, three(), []api.Step{along(0), along(1), back(2)}, api.OK)
		confirmIs(t, three(), []api.Step{along(0), back(4)}, api.ErrAlike)
	}
}
