package stuck_test

import (
	"slices"
	"testing"

	"pianola/api"
	"pianola/stuck"
)

// room is how much lies behind a roomy list.
const room = 40

// roomy is the same list with room behind it, in which these lie.
func roomy[T any](list []T, behind func(i int) T) []T {
	long := slices.Clone(list)
	for i := range room {
		long = append(long, behind(i))
	}
	return long[:len(list)]
}

// roomyNet has sound arcs behind its own, no two alike, that would hold any block.
func roomyNet(n api.Net) api.Net {
	nodes := max(1, n.Nodes)
	return api.Net{Nodes: n.Nodes, Arcs: roomy(n.Arcs, func(i int) api.Arc { return arc(i%nodes, i%nodes, 1, 64, i) })}
}

// roomyBlocks have blocks behind them, of each of the net's nodes in turn.
func roomyBlocks(n api.Net, blocks []api.Block) []api.Block {
	return roomy(blocks, func(i int) api.Block { return block(i, i, len(n.Arcs)+i) })
}

// TestGivenIsLeft is R2: Confirm leaves the net, the blocks and the room behind them, and does not read that room (an arc that lies there is none, a block that lies there holds no other).
func TestGivenIsLeft(t *testing.T) {
	c := chance(241)
	met := map[api.Errno]int{}
	for round := range 3200 {
		n, blocks := c.held(1 + round%32)
		switch c.below(6) {
		case 0:
			c.spoil(&n)
		case 1:
			c.loosen(n, blocks)
		case 2:
			blocks = c.flaw(n, blocks)
		case 3:
			i := c.below(len(blocks))
			blocks[i].Arc = len(n.Arcs) + blocks[i].Node // in the room there is such an arc
		case 4:
			blocks = slices.DeleteFunc(blocks, func(b api.Block) bool { return b.Node == 0 }) // in the room there is such a block
		}
		code := verdict(n, blocks)
		met[code]++
		given, kept := roomyNet(n), roomyNet(n)
		list, keptList := roomyBlocks(n, blocks), roomyBlocks(n, blocks)
		confirmIs(t, given, list, code)
		if whole := len(n.Arcs) + room; !slices.Equal(given.Arcs[:whole], kept.Arcs[:whole]) {
			t.Fatalf("%v is now %v", kept.Arcs[:whole], given.Arcs[:whole])
		}
		if whole := len(blocks) + room; !slices.Equal(list[:whole], keptList[:whole]) {
			t.Fatalf("%v is now %v", keptList[:whole], list[:whole])
		}
	}
	if met[api.OK] < 300 || met[api.ErrLoose] < 300 || met[api.ErrBlock] < 300 {
		t.Error("too few of a kind", met)
	}
}

// TestCallsAreApart is R2: calls do not hang on those ahead of them, of other nets and blocks and of such that are refused, nor on what is written into these later.
func TestCallsAreApart(t *testing.T) {
	c := chance(242)
	for range 600 {
		other, blocks := c.held(1 + c.below(32))
		if c.below(2) == 0 {
			c.spoil(&other)
		}
		stuck.Confirm(other, blocks...)
		clear(other.Arcs)
		clear(blocks)
		TestExamples(t)
		n, web := web()
		confirmIs(t, n, web, api.OK)
	}
}
