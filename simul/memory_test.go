package simul_test

import (
	"slices"
	"testing"

	"pianola/api"
	"pianola/simul"
)

// scrawl writes into a list and into all the room behind it.
func scrawl[T any](list []T, with T) {
	list = list[:cap(list)]
	for i := range list {
		list[i] = with
	}
}

// room is how much lies behind a roomy list.
const room = 40

// roomy is the same list with room behind it, in which these lie.
func roomy[T any](list []T, behind func(i int) T) []T {
	long := slices.Clone(list)
	for i := range room {
		long = append(long, behind(i))
	}
	return long[:len(list)]
}

// left fails, unless a roomy list and its room are as they were.
func left[T comparable](t *testing.T, list []T, behind func(i int) T, plain []T) {
	t.Helper()
	if was := roomy(plain, behind); !slices.Equal(list[:len(plain)+room], was[:len(plain)+room]) {
		t.Fatalf("%v is now %v", was[:len(plain)+room], list[:len(plain)+room])
	}
}

// TestGivenIsLeft is R2: Run leaves the net, the counts, prefer and the room behind them, and does not read that room (an arc that lies there takes nothing, a count there does not count, a node there is not preferred, whether it is one or not).
func TestGivenIsLeft(t *testing.T) {
	c := chance(251)
	met := map[api.Errno]int{}
	lists, blocks := 0, 0
	for range 3000 {
		n, reps := c.period(c.sizes())
		prefer := c.prefer(n.Nodes)
		switch c.below(8) {
		case 0:
			c.spoil(&n)
		case 1:
			reps = reps[:len(reps)-1]
		case 2:
			prefer = c.flawPrefer(prefer, n.Nodes)
		}
		nodes := max(1, n.Nodes)
		arcBehind := func(i int) api.Arc { return arc(i%nodes, i%nodes, 64, 64, i) }
		repBehind := func(i int) int { return 1 + i }
		nodeBehind := func(i int) int { return i - room/2*(i%2) }
		given := api.Net{Nodes: n.Nodes, Arcs: roomy(n.Arcs, arcBehind)}
		counts, first := roomy(reps, repBehind), roomy(prefer, nodeBehind)
		p, e := agrees(t, n, slices.Clip(reps), slices.Clip(prefer))
		runIs(t, given, counts, first, p, e)
		left(t, given.Arcs, arcBehind, n.Arcs)
		left(t, counts, repBehind, reps)
		left(t, first, nodeBehind, prefer)
		met[e]++
		lists += min(1, len(p.List))
		blocks += min(1, len(p.Stuck))
	}
	if met[api.ErrArg] < 200 || met[api.ErrNode] < 200 || lists < 500 || blocks < 500 {
		t.Error("too few of a kind", met, lists, blocks)
	}
}

// TestNothingIsKept is R2: what is answered is new memory; what is written into the net, the counts, prefer or an answer later is not seen in an answer, neither in one that is there nor in a later one.
func TestNothingIsKept(t *testing.T) {
	c := chance(252)
	lists, blocks := 0, 0
	for range 1500 {
		n, reps := c.period(c.sizes())
		prefer := c.prefer(n.Nodes)
		want := periodOf(n, reps, prefer)
		lists += min(1, len(want.List))
		blocks += min(1, len(want.Stuck))
		one, two := answer(t, n, reps, prefer), answer(t, n, reps, prefer)
		scrawl(one.List, -7)
		scrawl(one.Stuck, block(-7, -7, -7))
		runIs(t, n, reps, prefer, want, api.OK)
		scrawl(n.Arcs, arc(-7, -7, -7, -7, -7))
		scrawl(reps, -7)
		scrawl(prefer, -7)
		if !same(two, want) {
			t.Fatalf("%v, not %v", two, want)
		}
	}
	if lists < 300 || blocks < 300 {
		t.Error("too few of a kind", lists, blocks)
	}
}

// TestCallsAreApart is R2: calls do not hang on those ahead of them, of other nets, counts and preferences and of such that are refused.
func TestCallsAreApart(t *testing.T) {
	c := chance(253)
	for range 600 {
		other, reps := c.period(c.sizes())
		if c.below(2) == 0 {
			c.spoil(&other)
		}
		simul.Run(other, c.flawReps(reps), c.prefer(32)...)
		simul.Run(other, reps, c.prefer(len(reps))...)
		TestExamples(t)
	}
}
