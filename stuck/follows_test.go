package stuck_test

import (
	"slices"
	"testing"

	"pianola/api"
	"pianola/net"
	"pianola/stuck"
)

// smallNets are all of two nodes and two arcs, with rates up to 2 and starts up to 3.
func smallNets() []api.Net {
	var arcs []api.Arc
	for i := range 64 {
		arcs = append(arcs, arc(i%2, i/2%2, 1+i/4%2, 1+i/8%2, i/16))
	}
	var all []api.Net
	for _, a := range arcs {
		for _, b := range arcs {
			all = append(all, netOf(2, a, b))
		}
	}
	return all
}

// smallBlocks are all lists of at most one block a node, by rising nodes, with up to two firings.
func smallBlocks() [][]api.Block {
	of := func(node int) [][]api.Block {
		all := [][]api.Block{nil}
		for i := range 6 {
			all = append(all, []api.Block{block(node, i/2, i%2)})
		}
		return all
	}
	var all [][]api.Block
	for _, a := range of(0) {
		for _, b := range of(1) {
			all = append(all, slices.Concat(a, b))
		}
	}
	return all
}

// short tells whether a node that has fired with others so often lacks tokens.
func short(n api.Net, fired []int, node int) bool {
	return slices.ContainsFunc(n.Arcs, func(a api.Arc) bool {
		return a.To == node && a.Start+a.Give*fired[a.From]-a.Take*fired[a.To] < a.Take
	})
}

// farthest is how often each node fires, at most, going through every row of up to so many firings.
func farthest(n api.Net, many int) []int {
	most, fired := make([]int, n.Nodes), make([]int, n.Nodes)
	var every func(more int)
	every = func(more int) {
		for node := range fired {
			most[node] = max(most[node], fired[node])
			if more > 0 && !short(n, fired, node) {
				fired[node]++
				every(more - 1)
				fired[node]--
			}
		}
	}
	every(many)
	return most
}

// TestEverySmallNet is P14.1 and P14.2: all small nets and lists of blocks, against a model; no row of firings passes those that are confirmed.
func TestEverySmallNet(t *testing.T) {
	met := map[api.Errno]int{}
	lists := smallBlocks()
	for _, n := range smallNets() {
		most := farthest(n, 6)
		for _, blocks := range lists {
			e := agrees(t, n, blocks)
			met[e]++
			passed := slices.ContainsFunc(blocks, func(b api.Block) bool { return most[b.Node] > b.Fired })
			if e == api.OK && passed {
				t.Fatalf("%v: %v are confirmed, but rows come to %v", n, blocks, most)
			}
		}
	}
	if met[api.OK] < 1000 || met[api.ErrLoose] < 1000 || met[api.ErrBlock] < 1000 {
		t.Error("too few of a kind", met)
	}
}

// push fires nodes in any order, as far as they may and each at most so often; by P10.7 no other order brings a node farther.
func push(c *chance, s *net.State, most []int) {
	for going := true; going; {
		going = false
		for _, node := range c.order(len(most)) {
			for many := 1 + c.below(9); many > 0 && s.Fired()[node] < most[node] && s.Fire(node) == 1; many-- {
				going = true
			}
		}
	}
}

// passes fails, if one of the blocks is passed.
func passes(t *testing.T, n api.Net, blocks []api.Block, fired []int) {
	t.Helper()
	for _, b := range blocks {
		if fired[b.Node] > b.Fired {
			t.Fatalf("%v: %v, but %d fired %d times", n, blocks, b.Node, fired[b.Node])
		}
	}
}

// TestNoRowPasses is P14.2: in nets of any other arcs, of which nodes without a block fire as they like, no block that is confirmed is passed.
func TestNoRowPasses(t *testing.T) {
	c := chance(142)
	full := 0
	for round := range 1600 {
		n, blocks := c.held(1 + round%32)
		if blocks[0].Fired > 100 {
			continue
		}
		if c.below(2) == 0 {
			n = thinned(n, blocks)
		}
		confirmIs(t, n, blocks, api.OK)
		most := slices.Repeat([]int{150}, n.Nodes)
		for _, b := range blocks {
			most[b.Node] = b.Fired + 1
		}
		s := begun(t, n)
		push(&c, s, most)
		passes(t, n, blocks, s.Fired())
		for _, b := range blocks {
			if s.Fired()[b.Node] == b.Fired {
				full++
			}
		}
	}
	if full < 300 {
		t.Errorf("%d blocks only were reached", full)
	}
}

// thinned is a net the arcs of which no block names leave its nodes alone: what the blocks say is then all that holds them.
func thinned(n api.Net, blocks []api.Block) api.Net {
	thin := api.Net{Nodes: n.Nodes, Arcs: slices.Clone(n.Arcs)}
	for i := range thin.Arcs {
		if !slices.ContainsFunc(blocks, func(b api.Block) bool { return b.Arc == i }) {
			thin.Arcs[i].Take, thin.Arcs[i].Start = 1, 256
		}
	}
	return thin
}

// blocksAt are the blocks of the nodes that have not fired as often as they should and may not fire.
func blocksAt(s *net.State, reps []int) []api.Block {
	var blocks []api.Block
	for node, fired := range s.Fired() {
		if fired < reps[node] && !s.May(node) {
			blocks = append(blocks, block(node, fired, s.Short(node)))
		}
	}
	return blocks
}

// TestStandstill is P14.2: where no node may fire, the blocks of all are confirmed; with one Fired less, which was passed, they are not.
func TestStandstill(t *testing.T) {
	c := chance(143)
	met, lessened := 0, 0
	for range 6000 {
		n := c.net()
		enough := slices.Repeat([]int{60}, n.Nodes)
		s := begun(t, n)
		push(&c, s, enough)
		blocks := blocksAt(s, enough)
		if len(blocks) < n.Nodes {
			continue
		}
		met++
		confirmIs(t, n, blocks, api.OK)
		for i := range blocks {
			if blocks[i].Fired > 0 {
				lessened++
				blocks[i].Fired--
				confirmIs(t, n, blocks, api.ErrLoose)
				blocks[i].Fired++
			}
		}
	}
	if met < 300 || lessened < 100 {
		t.Error("too few of a kind", met, lessened)
	}
}

// level is a net with which these counts balance, so many arcs, many with tokens for some firings of a period.
func (c *chance) level(reps []int, arcs int) api.Net {
	n := api.Net{Nodes: len(reps)}
	for range arcs {
		a := c.arc(c.below(len(reps)), c.below(len(reps)), 1)
		a.Give, a.Take = reps[a.To], reps[a.From]
		a.Start = c.below(1 + pick(c, 0, a.Take*reps[a.To], a.Take*reps[a.To]))
		n.Arcs = append(n.Arcs, a)
	}
	return n
}

// TestPeriods is P14.2 and T3: where a period of counts that balance can't be ended, the blocks of the nodes that have not fired as often as their counts are confirmed.
func TestPeriods(t *testing.T) {
	c := chance(144)
	met, some, fired := 0, 0, 0
	for range 3000 {
		var reps []int
		for range 1 + c.below(pick(&c, 3, 8, 32)) {
			reps = append(reps, pick(&c, 1, 2, 3, 4, 6, 12))
		}
		n := c.level(reps, c.below(pick(&c, 4, 12, 40)))
		s := begun(t, n)
		push(&c, s, reps)
		blocks := blocksAt(s, reps)
		if len(blocks) == 0 {
			continue
		}
		met++
		mix(&c, blocks)
		confirmIs(t, n, blocks, api.OK)
		if len(blocks) < n.Nodes {
			some++
		}
		if slices.ContainsFunc(blocks, func(b api.Block) bool { return b.Fired > 0 }) {
			fired++
		}
	}
	if met < 1000 || some < 300 || fired < 300 {
		t.Error("too few of a kind", met, some, fired)
	}
}

// TestAnyOrder is P14.2: in whatever order blocks stand, the answer is the same, where they hold, are loose, are flawed, or both, and where the net is refused.
func TestAnyOrder(t *testing.T) {
	c := chance(145)
	met := map[api.Errno]int{}
	for round := range 2000 {
		n, blocks := c.held(1 + round%32)
		switch round / 32 % 5 {
		case 1:
			c.loosen(n, blocks)
		case 2:
			blocks = c.flaw(n, blocks)
		case 3:
			c.loosen(n, blocks)
			blocks = c.flaw(n, blocks)
		case 4:
			c.spoil(&n)
		}
		code := stuck.Confirm(n, blocks...)
		met[code]++
		for range 12 {
			mix(&c, blocks)
			confirmIs(t, n, blocks, code)
		}
		slices.SortFunc(blocks, func(a, b api.Block) int { return a.Arc - b.Arc })
		confirmIs(t, n, blocks, code)
	}
	if met[api.OK] < 300 || met[api.ErrLoose] < 200 || met[api.ErrBlock] < 300 {
		t.Error("too few of a kind", met)
	}
}

// TestEveryOrder is P14.2: the web's blocks, held, loose and flawed, in each of their orders.
func TestEveryOrder(t *testing.T) {
	n, blocks := web()
	loose, _ := web()
	loose.Arcs[3].Start++
	flawed := changed(2, func(b *api.Block) { b.Arc = 3 })
	var every func(at int)
	every = func(at int) {
		if at == len(blocks) {
			confirmIs(t, n, blocks, api.OK)
			confirmIs(t, loose, blocks, api.ErrLoose)
			confirmIs(t, n, flawed, api.ErrBlock)
			confirmIs(t, loose, flawed, api.ErrBlock)
		}
		for i := at; i < len(blocks); i++ {
			blocks[at], blocks[i], flawed[at], flawed[i] = blocks[i], blocks[at], flawed[i], flawed[at]
			every(at + 1)
			blocks[at], blocks[i], flawed[at], flawed[i] = blocks[i], blocks[at], flawed[i], flawed[at]
		}
	}
	every(0)
}

// TestMoreTokens is P14.2: with more tokens at the start, on whatever arcs, blocks that were loose stay loose (and such that were none stay none); with fewer, those that were confirmed stay so.
func TestMoreTokens(t *testing.T) {
	c := chance(146)
	met := map[api.Errno]int{}
	for round := range 3200 {
		n, blocks := c.held(1 + round%32)
		switch round / 32 % 3 {
		case 1:
			c.loosen(n, blocks)
		case 2:
			blocks = c.flaw(n, blocks)
		}
		code := verdict(n, blocks)
		met[code]++
		for range 6 {
			for i := range n.Arcs {
				switch a := &n.Arcs[i]; {
				case code == api.OK:
					a.Start -= c.below(1 + min(a.Start, 3))
				case c.below(3) == 0:
					a.Start += c.below(1 + min(256-a.Start, pick(&c, 1, 20, 256)))
				}
			}
			confirmIs(t, n, blocks, code)
		}
	}
	if met[api.OK] < 500 || met[api.ErrLoose] < 500 || met[api.ErrBlock] < 500 {
		t.Error("too few of a kind", met)
	}
}
