package stuck_test

import (
	"slices"
	"testing"

	"pianola/api"
	"pianola/net"
)

// pair is the net of the chapter's examples.
func pair() api.Net { return netOf(2, arc(0, 1, 1, 1, 0), arc(1, 0, 2, 2, 1)) }

// TestExamples is P14.1: the chapter's examples.
func TestExamples(t *testing.T) {
	confirmIs(t, pair(), []api.Block{block(0, 0, 1), block(1, 0, 0)}, api.OK)
	confirmIs(t, pair(), []api.Block{block(1, 0, 0), block(0, 0, 1)}, api.OK)
	confirmIs(t, pair(), []api.Block{block(0, 0, 1)}, api.ErrBlock)
	confirmIs(t, pair(), []api.Block{block(0, 0, 0), block(1, 0, 0)}, api.ErrBlock)
	confirmIs(t, pair(), []api.Block{block(0, 0, 1), block(1, 1, 0)}, api.ErrLoose)
	confirmIs(t, pair(), nil, api.ErrBlock)
	confirmIs(t, netOf(1, arc(0, 0, 1, 1, 0)), []api.Block{block(0, 0, 0)}, api.OK)
	confirmIs(t, netOf(1, arc(0, 0, 1, 1, 1)), []api.Block{block(0, 0, 0)}, api.ErrLoose)
}

// web is a net with blocks that are confirmed, each held by one token: 0 and 1 by each other, 2 by 1, 3 by 2, 4 by itself. Node 5 has no block, nor do the last four arcs.
func web() (api.Net, []api.Block) {
	n := netOf(6,
		arc(0, 1, 2, 3, 2), // 2 and 2 times 6 are 14; 5 times 3 are wanted
		arc(1, 0, 3, 2, 1), // 1 and 3 times 4 are 13; 7 times 2 are wanted
		arc(1, 2, 1, 1, 3), // 3 and 4 are 7; 8 are wanted
		arc(2, 3, 4, 7, 6), // 6 and 4 times 7 are 34; 5 times 7 are wanted
		arc(4, 4, 5, 6, 5), // 5 and nought; 6 are wanted
		arc(5, 0, 1, 1, 0),
		arc(5, 4, 1, 1, 256),
		arc(3, 5, 1, 1, 256),
		arc(0, 2, 9, 2, 0),
	)
	return n, []api.Block{block(0, 6, 1), block(1, 4, 0), block(2, 7, 2), block(3, 4, 3), block(4, 0, 4)}
}

// changed are the web's blocks, one of which is changed.
func changed(at int, change func(b *api.Block)) []api.Block {
	_, blocks := web()
	change(&blocks[at])
	return blocks
}

// TestWeb is P14.1: blocks that hold each other in several ways, with one token more on each arc in turn; tokens on arcs that no block names do not count.
func TestWeb(t *testing.T) {
	n, blocks := web()
	confirmIs(t, n, blocks, api.OK)
	for i := range n.Arcs {
		n, _ := web()
		n.Arcs[i].Start = min(256, n.Arcs[i].Start+1)
		code := api.OK
		if i < 5 {
			code = api.ErrLoose
		}
		confirmIs(t, n, blocks, code)
	}
	for i := range 4 {
		confirmIs(t, n, changed(i, func(b *api.Block) { b.Fired-- }), api.ErrLoose)
	}
}

// TestSomeBlocks is P14.1: blocks may be of some nodes only, if those that hold them are there.
func TestSomeBlocks(t *testing.T) {
	n, all := web()
	for set := range 32 {
		var blocks []api.Block
		has := func(node int) bool { return set&(1<<node) != 0 }
		for _, b := range all {
			if has(b.Node) {
				blocks = append(blocks, b)
			}
		}
		code := api.OK
		if set == 0 || has(0) != has(1) || has(2) && !has(1) || has(3) && !has(2) {
			code = api.ErrBlock
		}
		confirmIs(t, n, blocks, code)
	}
}

// wrong are nets of each kind that net.Check refuses.
func wrong() map[api.Errno][]api.Net {
	spoilt := func(set func(a *api.Arc)) api.Net {
		n := pair()
		n.Arcs = append(n.Arcs, arc(0, 1, 1, 1, 0))
		set(&n.Arcs[2])
		return n
	}
	return map[api.Errno][]api.Net{
		api.ErrNode: {
			{}, {Nodes: -1}, {Nodes: least}, {Nodes: 33}, {Nodes: greatest, Arcs: pair().Arcs}, {Arcs: pair().Arcs}, {Nodes: 1, Arcs: pair().Arcs},
			spoilt(func(a *api.Arc) { a.From = -1 }), spoilt(func(a *api.Arc) { a.From = 2 }), spoilt(func(a *api.Arc) { a.From = greatest }),
			spoilt(func(a *api.Arc) { a.To = -1 }), spoilt(func(a *api.Arc) { a.To = 2 }), spoilt(func(a *api.Arc) { a.To = least }),
		},
		api.ErrMany: {
			{Nodes: 2, Arcs: append(slices.Repeat(pair().Arcs, 48), arc(0, 1, 1, 1, 0))}, {Nodes: 2, Arcs: make([]api.Arc, 97)},
		},
		api.ErrRate: {
			spoilt(func(a *api.Arc) { a.Give = 0 }), spoilt(func(a *api.Arc) { a.Give = 65 }), spoilt(func(a *api.Arc) { a.Give = least }),
			spoilt(func(a *api.Arc) { a.Take = 0 }), spoilt(func(a *api.Arc) { a.Take = 65 }), spoilt(func(a *api.Arc) { a.Take = greatest }),
		},
		api.ErrStart: {
			spoilt(func(a *api.Arc) { a.Start = -1 }), spoilt(func(a *api.Arc) { a.Start = 257 }), spoilt(func(a *api.Arc) { a.Start = greatest }),
		},
	}
}

// TestRefused is P14.1: each thing for which net.Check refuses a net, ahead of whatever is wrong with the blocks, and where nothing is.
func TestRefused(t *testing.T) {
	for code, nets := range wrong() {
		for _, n := range nets {
			if e := net.Check(n); e != code {
				t.Fatalf("%v: %v", n, e)
			}
			for _, blocks := range [][]api.Block{
				nil,
				{block(0, 0, 1), block(1, 0, 0)},
				{block(0, 0, 1), block(1, 1, 0)},
				{block(0, 0, 1)},
				{block(0, 0, 1), block(0, 0, 1)},
				{block(-1, 0, 0)},
				{block(2, 0, 2)},
				{block(0, -1, 1)},
				{block(0, 0, -1)},
				{block(greatest, least, greatest)},
				make([]api.Block, 2000),
			} {
				confirmIs(t, n, blocks, code)
			}
		}
	}
}

// TestNoBlock is P14.1: without a block there is none, whatever the net.
func TestNoBlock(t *testing.T) {
	n, _ := web()
	for _, n := range []api.Net{n, pair(), {Nodes: 1}, {Nodes: 32}, netOf(1, arc(0, 0, 1, 1, 0)), netOf(1, arc(0, 0, 1, 1, 256))} {
		confirmIs(t, n, nil, api.ErrBlock)
		confirmIs(t, n, []api.Block{}, api.ErrBlock)
	}
}

// TestNodeIsNone is P14.1: a Node that names no node, below 0 and past the last one, instead of each block's and beside them at each place.
func TestNodeIsNone(t *testing.T) {
	n, blocks := web()
	for _, none := range []int{least, least + 1, -1 << 32, -6, -1, 6, 7, 32, 1 << 32, greatest} {
		for i := range blocks {
			confirmIs(t, n, changed(i, func(b *api.Block) { b.Node = none }), api.ErrBlock)
			confirmIs(t, n, slices.Insert(slices.Clone(blocks), i, block(none, 0, i)), api.ErrBlock)
		}
		confirmIs(t, n, append(slices.Clone(blocks), block(none, 0, 4)), api.ErrBlock)
		confirmIs(t, n, []api.Block{block(none, 0, 4)}, api.ErrBlock)
	}
	confirmIs(t, netOf(1), []api.Block{block(0, 0, 0)}, api.ErrBlock)
}

// TestNodeTwice is P14.1: two blocks of one Node, the same or not, side by side or not.
func TestNodeTwice(t *testing.T) {
	n, blocks := web()
	for _, b := range blocks {
		for at := range len(blocks) + 1 {
			for _, other := range []api.Block{b, block(b.Node, 0, b.Arc), block(b.Node, 4096, b.Arc), block(b.Node, b.Fired, 8), block(b.Node, -1, -1)} {
				confirmIs(t, n, slices.Insert(slices.Clone(blocks), at, other), api.ErrBlock)
			}
		}
	}
	confirmIs(t, n, []api.Block{block(4, 0, 4), block(4, 0, 4)}, api.ErrBlock)
	two := netOf(1, arc(0, 0, 1, 1, 0), arc(0, 0, 1, 1, 0))
	confirmIs(t, two, []api.Block{block(0, 0, 1)}, api.OK)
	confirmIs(t, two, []api.Block{block(0, 0, 0), block(0, 0, 1)}, api.ErrBlock)
}

// TestFired is P14.1: from 0 to MaxRep, of a block alone and of each one of several.
func TestFired(t *testing.T) {
	alone := netOf(1, arc(0, 0, 7, 7, 6))
	for _, fired := range []int{0, 1, 2047, 2048, 4095, 4096} {
		confirmIs(t, alone, []api.Block{block(0, fired, 0)}, api.OK)
		alone.Arcs[0].Start++
		confirmIs(t, alone, []api.Block{block(0, fired, 0)}, api.ErrLoose)
		alone.Arcs[0].Start--
	}
	n, blocks := web()
	for _, fired := range []int{least, least + 1, -4096, -1 << 32, -1, 4097, 4098, 65536, 1 << 32, 1<<58 - 1, 1 << 58, 1 << 62, greatest - 1, greatest} {
		confirmIs(t, alone, []api.Block{block(0, fired, 0)}, api.ErrBlock)
		for i := range blocks {
			confirmIs(t, n, changed(i, func(b *api.Block) { b.Fired = fired }), api.ErrBlock)
		}
	}
	last := changed(3, func(b *api.Block) { b.Fired = 4096 }) // node 3 holds no other
	confirmIs(t, n, last, api.OK)
	last[3].Fired++
	confirmIs(t, n, last, api.ErrBlock)
}

// TestArcIsNone is P14.1: an Arc that names no arc, below 0 and past the last one.
func TestArcIsNone(t *testing.T) {
	n, blocks := web()
	for _, none := range []int{least, least + 1, -1 << 32, -9, -1, 9, 10, 96, 1 << 32, greatest} {
		for i := range blocks {
			confirmIs(t, n, changed(i, func(b *api.Block) { b.Arc = none }), api.ErrBlock)
		}
		confirmIs(t, netOf(1, arc(0, 0, 1, 1, 0)), []api.Block{block(0, 0, none)}, api.ErrBlock)
	}
	for _, i := range []int{-1, 0, 1} {
		confirmIs(t, api.Net{Nodes: 3}, []api.Block{block(0, 0, i), block(1, 0, i), block(2, 0, i)}, api.ErrBlock)
	}
}

// TestArcLeadsElsewhere is P14.1: an Arc whose To is not Node, and one whose From has no block, for each block; the rest are taken.
func TestArcLeadsElsewhere(t *testing.T) {
	n, blocks := web()
	for i, b := range blocks {
		for arc, a := range n.Arcs {
			other := changed(i, func(b *api.Block) { b.Arc = arc })
			if a.To != b.Node || a.From == 5 {
				confirmIs(t, n, other, api.ErrBlock)
			} else if e := agrees(t, n, other); e == api.ErrBlock {
				t.Fatalf("%v: %v", other, e)
			}
		}
	}
	confirmIs(t, n, append(blocks, block(5, 300, 7)), api.OK)
	confirmIs(t, n, append(blocks, block(5, 259, 7)), api.ErrLoose)
	confirmIs(t, n, append(blocks, block(5, 260, 7)), api.OK)
	confirmIs(t, n, append(blocks, block(5, 260, 5)), api.ErrBlock)
}

// TestOwnArc is P14.1: an arc from a node to itself holds its block alone, with all that the node can give.
func TestOwnArc(t *testing.T) {
	for give := 1; give <= 64; give++ {
		for take := 1; take <= 64; take++ {
			for _, fired := range []int{0, 1, 2, 3, 63, 4096} {
				for _, start := range []int{0, 1, take - 1, take, 256} {
					code := api.OK
					if start+give*fired >= take*(fired+1) {
						code = api.ErrLoose
					}
					n := netOf(3, arc(0, 2, 1, 1, 9), arc(2, 2, give, take, start))
					confirmIs(t, n, []api.Block{block(2, fired, 1)}, code)
				}
			}
		}
	}
}

// TestByOneToken is P14.1: for all rates and some firings a block is held by one token, and loose with one token more, or if From fired once more.
func TestByOneToken(t *testing.T) {
	fired := []int{0, 1, 2, 5, 64, 4095, 4096}
	met := 0
	for give := 1; give <= 64; give++ {
		for take := 1; take <= 64; take++ {
			for i := range len(fired) * len(fired) {
				from, to := fired[i/len(fired)], fired[i%len(fired)]
				start := take*(to+1) - give*from - 1
				if start < 0 || start >= 256 {
					continue
				}
				met++
				n := netOf(2, arc(0, 1, give, take, start), arc(0, 0, 1, 1, 0))
				confirmIs(t, n, []api.Block{block(1, to, 0), block(0, from, 1)}, api.OK)
				if from < 4096 {
					confirmIs(t, n, []api.Block{block(1, to, 0), block(0, from+1, 1)}, api.ErrLoose)
				}
				n.Arcs[0].Start++
				confirmIs(t, n, []api.Block{block(1, to, 0), block(0, from, 1)}, api.ErrLoose)
			}
		}
	}
	if met < 5000 {
		t.Errorf("%d only", met)
	}
}

// TestBlockAheadOfLoose is P14.1: where one block is loose and another, or the same one, is flawed, it is ErrBlock, whichever stands first.
func TestBlockAheadOfLoose(t *testing.T) {
	n, blocks := web()
	for loose := range blocks {
		n.Arcs[blocks[loose].Arc].Start++
		for at := range blocks {
			for _, flaw := range []func(b *api.Block){
				func(b *api.Block) { b.Node = -1 },
				func(b *api.Block) { b.Node = 6 },
				func(b *api.Block) { b.Node = (b.Node + 1) % 5 },
				func(b *api.Block) { b.Fired = -1 },
				func(b *api.Block) { b.Fired = 4097 },
				func(b *api.Block) { b.Arc = -1 },
				func(b *api.Block) { b.Arc = 9 },
				func(b *api.Block) { b.Arc = 7 },
			} {
				other := changed(at, flaw)
				confirmIs(t, n, other, api.ErrBlock)
				slices.Reverse(other)
				confirmIs(t, n, other, api.ErrBlock)
			}
		}
		confirmIs(t, n, append([]api.Block{block(5, 4096, 7)}, blocks...), api.ErrLoose)
		confirmIs(t, n, append([]api.Block{block(5, 4096, 6)}, blocks...), api.ErrBlock)
		confirmIs(t, n, append(slices.Clone(blocks), block(5, 4096, 6)), api.ErrBlock)
		n.Arcs[blocks[loose].Arc].Start--
	}
	confirmIs(t, netOf(1, arc(0, 0, 1, 1, 256)), []api.Block{block(0, 4096, 0), block(0, 4096, 0)}, api.ErrBlock)
	confirmIs(t, netOf(2, arc(0, 1, 1, 1, 256)), []api.Block{block(1, 0, 0)}, api.ErrBlock)
}

// TestAllLoose is P14.1: one loose block among many is enough, and so are all.
func TestAllLoose(t *testing.T) {
	n, blocks := web()
	for set := 1; set < 32; set++ {
		for i, b := range blocks {
			if set&(1<<i) != 0 {
				n.Arcs[b.Arc].Start++
			}
		}
		confirmIs(t, n, blocks, api.ErrLoose)
		n, _ = web()
	}
}

// TestGreatest is P14.1: at the limits: 32 blocks in 96 arcs, all held by the last arcs, with the greatest rates, starts and firings.
func TestGreatest(t *testing.T) {
	n, blocks := api.Net{Nodes: 32}, []api.Block(nil)
	for node := range 32 {
		n.Arcs = append(n.Arcs, arc(node, node, 64, 1, 256), arc((node+1)%32, node, 64, 1, 256))
	}
	for node := range 32 {
		n.Arcs = append(n.Arcs, arc((node+5)%32, node, 64, 64, 63))
		blocks = append(blocks, block(node, 4096, 64+node))
	}
	confirmIs(t, n, blocks, api.OK)
	for i := range blocks {
		n.Arcs[64+i].Start = 64
		confirmIs(t, n, blocks, api.ErrLoose)
		n.Arcs[64+i].Start = 63
		blocks[i].Arc = 2 * i
		confirmIs(t, n, blocks, api.ErrLoose)
		blocks[i].Arc = 64 + i
		confirmIs(t, n, slices.Delete(slices.Clone(blocks), i, i+1), api.ErrBlock)
		confirmIs(t, n, append(slices.Clone(blocks), blocks[i]), api.ErrBlock)
	}
	confirmIs(t, n, blocks, api.OK)
}

// TestLong is P14.1: lists far longer than a net has nodes.
func TestLong(t *testing.T) {
	n, blocks := web()
	confirmIs(t, n, slices.Repeat(blocks, 1<<18), api.ErrBlock)
	confirmIs(t, n, make([]api.Block, 1<<20), api.ErrBlock)
	many := make([]api.Block, 1<<20)
	for i := range many {
		many[i] = block(i, 0, i)
	}
	confirmIs(t, n, many, api.ErrBlock)
	slices.Reverse(many)
	confirmIs(t, n, many, api.ErrBlock)
}

// TestMany is P14.1: blocks that hold, such that are loose by one token, such that are flawed, and any ones, of nets that are sound or not, against a model.
func TestMany(t *testing.T) {
	c := chance(141)
	met := map[api.Errno]int{}
	for round := range 6400 {
		n, blocks := c.held(1 + round%32)
		confirmIs(t, n, blocks, api.OK)
		met[agrees(t, n, blocks)]++
		if c.loosen(n, blocks) {
			confirmIs(t, n, blocks, api.ErrLoose)
			met[agrees(t, n, blocks)]++
		}
		met[agrees(t, n, c.flaw(n, blocks))]++
		c.spoil(&n)
		met[agrees(t, n, blocks)]++

		n = c.net()
		met[agrees(t, n, c.blocks(n, c.below(pick(&c, 3, 6, 40))))]++
	}
	for _, e := range []api.Errno{api.OK, api.ErrBlock, api.ErrLoose, api.ErrNode, api.ErrMany, api.ErrRate, api.ErrStart} {
		if met[e] < 200 {
			t.Errorf("%v: %d only", e, met[e])
		}
	}
}
