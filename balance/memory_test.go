package balance_test

import (
	"slices"
	"testing"

	"pianola/api"
	"pianola/balance"
	"pianola/net"
)

// scrawl writes into a list and into all the room behind it.
func scrawl[T any](list []T, with T) {
	list = list[:cap(list)]
	for i := range list {
		list[i] = with
	}
}

// room is how much lies behind a roomy list.
const room = 40

// roomy is the same list with room behind it, in which these lie.
func roomy[T any](list []T, behind func(i int) T) []T {
	long := slices.Clone(list)
	for i := range room {
		long = append(long, behind(i))
	}
	return long[:len(list)]
}

// roomyNet has sound arcs behind its own, no two alike, that do not balance.
func roomyNet(n api.Net) api.Net {
	return api.Net{Nodes: n.Nodes, Arcs: roomy(n.Arcs, func(i int) api.Arc {
		return api.Arc{From: i % max(1, n.Nodes), Give: 8 + i, Take: 7, Start: 200 + i}
	})}
}

// roomyReps have counts behind them.
func roomyReps(reps []int) []int { return roomy(reps, func(i int) int { return 1 + i }) }

// TestGivenIsLeft is R2: both calls leave the net, the counts and the room behind them, and do not read that room (an arc that lies there is none, a count that lies there does not count).
func TestGivenIsLeft(t *testing.T) {
	c := chance(231)
	for _, n := range manyNets(&c, 400) {
		if c.below(8) == 0 {
			c.spoil(&n)
		}
		code, want := net.Check(n), api.Balance{}
		reps := slices.Repeat([]int{1}, min(40, max(0, n.Nodes)))
		if code == api.OK {
			want = solved(n)
		}
		if want.Verdict == api.Steady {
			reps = slices.Clone(want.Reps)
		}
		if c.below(3) == 0 && len(reps) > 0 {
			reps = reps[:len(reps)-1]
		}
		given, kept := roomyNet(n), roomyNet(n)
		counts, keptCounts := roomyReps(reps), roomyReps(reps)
		solveIs(t, given, want, code)
		switch {
		case code != api.OK:
			holdsIs(t, given, counts, false, code)
		case len(counts) != n.Nodes:
			holdsIs(t, given, counts, false, api.ErrArg)
		default:
			holdsIs(t, given, counts, holding(n, reps), api.OK)
		}
		if whole := len(n.Arcs) + room; !slices.Equal(given.Arcs[:whole], kept.Arcs[:whole]) {
			t.Fatalf("%v is now %v", kept.Arcs[:whole], given.Arcs[:whole])
		}
		if whole := len(reps) + room; !slices.Equal(counts[:whole], keptCounts[:whole]) {
			t.Fatalf("%v is now %v", keptCounts[:whole], counts[:whole])
		}
	}
}

// TestNothingIsKept is R2: what is answered is new memory; what is written into the net, the counts or an answer later is not seen in an answer, neither in one that is there nor in a later one.
func TestNothingIsKept(t *testing.T) {
	c := chance(232)
	for _, n := range manyNets(&c, 300) {
		want := solved(n)
		first, second := answer(t, n), answer(t, n)
		scrawl(first.Reps, -7)
		scrawl(first.Cycle, api.Step{Arc: -9, Back: true})
		solveIs(t, n, want, api.OK)

		ones := slices.Repeat([]int{1}, n.Nodes)
		held := holding(n, ones)
		holdsIs(t, n, ones, held, api.OK)
		scrawl(ones, -7)
		holdsIs(t, n, slices.Repeat([]int{1}, n.Nodes), held, api.OK)

		scrawl(n.Arcs, api.Arc{From: -7, To: -7, Give: -7, Take: -7, Start: -7})
		if second.Verdict != want.Verdict || !slices.Equal(second.Reps, want.Reps) || !slices.Equal(second.Cycle, want.Cycle) {
			t.Fatalf("%v, not %v", second, want)
		}
	}
}

// TestCallsAreApart is R2: calls do not hang on those ahead of them, of other nets and of nets that are refused.
func TestCallsAreApart(t *testing.T) {
	c := chance(233)
	for range 300 {
		other := c.net()
		c.spoil(&other)
		balance.Solve(other)
		balance.Holds(other, slices.Repeat([]int{2}, c.below(33))...)
		solveIs(t, netOf(3, arc(0, 1, 1, 2), arc(1, 2, 1, 3), arc(2, 0, 6, 1)), steady(6, 3, 1), api.OK)
		solveIs(t, netOf(3, arc(0, 1, 1, 2), arc(1, 2, 1, 3), arc(2, 0, 5, 1)), unlike(along(2), along(0), along(1)), api.OK)
		solveIs(t, netOf(4, steep(0)...), tooBig(), api.OK)
		holdsIs(t, netOf(2, arc(0, 1, 2, 3)), []int{3, 2}, true, api.OK)
	}
}
