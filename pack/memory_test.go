package pack_test

import (
	"slices"
	"testing"

	"pianola/api"
	"pianola/pack"
)

// scrawl writes into a list and into all the room behind it.
func scrawl[T any](list []T, with T) {
	list = list[:cap(list)]
	for i := range list {
		list[i] = with
	}
}

// room is how much lies behind a roomy list.
const room = 40

// roomy is the same list with room behind it, in which these lie.
func roomy[T any](list []T, behind func(i int) T) []T {
	long := slices.Clone(list)
	for i := range room {
		long = append(long, behind(i))
	}
	return long[:len(list)]
}

// left fails, unless a roomy list and its room are as they were.
func left[T comparable](t *testing.T, list []T, behind func(i int) T, plain []T) {
	t.Helper()
	if was := roomy(plain, behind); !slices.Equal(list[:len(plain)+room], was[:len(plain)+room]) {
		t.Fatalf("%v is now %v", was[:len(plain)+room], list[:len(plain)+room])
	}
}

// TestGivenIsLeft is R2: the calls leave the net, the list, the regions and the room behind them, and do not read that room.
func TestGivenIsLeft(t *testing.T) {
	c := chance(291)
	met := map[api.Errno]int{}
	for range 3000 {
		n, list := c.homing()
		m, _ := modelOf(n, list)
		p := c.change(m.plan())
		switch c.below(8) {
		case 0:
			c.spoil(&n)
		case 1:
			list = c.flaw(list, n.Nodes)
		case 2:
			list = append(list, make([]int, 2049)...)
		}
		nodes := max(1, n.Nodes)
		arcBehind := func(i int) api.Arc { return arc(i%nodes, i%nodes, 64, 64, i) }
		nodeBehind := func(i int) int { return i - room/2*(i%2) }
		regionBehind := func(i int) api.Region { return api.Region{Base: i * i, Size: i - 3} }
		given, fires := api.Net{Nodes: n.Nodes, Arcs: roomy(n.Arcs, arcBehind)}, roomy(list, nodeBehind)
		plan := api.Plan{Regions: roomy(p.Regions, regionBehind), Total: p.Total}
		_, e := agrees(t, given, fires, plan)
		left(t, given.Arcs, arcBehind, n.Arcs)
		left(t, fires, nodeBehind, list)
		left(t, plan.Regions, regionBehind, p.Regions)
		met[e]++
	}
	for _, e := range []api.Errno{api.OK, api.ErrNode, api.ErrLong, api.ErrFire, api.ErrHome} {
		if met[e] < 20 {
			t.Errorf("%v: %d only", e, met[e])
		}
	}
}

// TestNothingIsKept is R2: what is written later into the net, the list, the plan or an answer is not seen in an answer, neither in one that is there nor in a later one.
func TestNothingIsKept(t *testing.T) {
	c := chance(292)
	for range 500 {
		n, list := c.wish()
		m, _ := modelOf(n, list)
		want, e := m.place()
		if e != api.OK {
			continue
		}
		pairs, p := clashing(t, n, list), placed(t, n, list)
		scrawl(clashing(t, n, list), [2]int{-7, -7})
		scrawl(placed(t, n, list).Regions, api.Region{Base: -7, Size: -7})
		asked := api.Plan{Regions: slices.Clone(p.Regions), Total: p.Total}
		pack.Check(n, asked, list...)
		scrawl(asked.Regions, api.Region{Base: -7, Size: -7})
		agrees(t, n, list, p)
		scrawl(n.Arcs, arc(-7, -7, -7, -7, -7))
		scrawl(list, -7)
		if !samePlan(p, want) || !slices.Equal(pairs, m.pairs()) {
			t.Fatalf("%v, %v, not %v", p, pairs, want)
		}
	}
}

// TestCallsAreApart is R2: calls do not hang on those ahead of them, of other nets, lists and plans and of such that are refused.
func TestCallsAreApart(t *testing.T) {
	c := chance(293)
	for range 500 {
		n, list := c.wish()
		p, _ := pack.Place(n, list...)
		pack.Check(n, c.change(p), list...)
		pack.Clash(n, c.flaw(list, n.Nodes)...)
		c.spoil(&n)
		pack.Clash(n, list...)
		pack.Place(n, list...)
		pack.Check(n, p, list...)
		TestClashExamples(t)
		TestPlaceExamples(t)
		TestCheckExamples(t)
	}
}
