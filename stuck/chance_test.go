package stuck_test

import (
	"slices"

	"pianola/api"
)

// chance gives numbers without any order that is to be seen, the same ones at each run.
type chance uint64

func (c *chance) below(n int) int {
	*c = *c*6364136223846793005 + 1442695040888963407
	return int(uint64(*c)>>33) % n
}

func pick[T any](c *chance, of ...T) T { return of[c.below(len(of))] }

func mix[T any](c *chance, list []T) {
	for i := range list {
		j := i + c.below(len(list)-i)
		list[i], list[j] = list[j], list[i]
	}
}

// arc is a sound one between these ends, its rates up to some one.
func (c *chance) arc(from, to, most int) api.Arc {
	return arc(from, to, 1+c.below(most), 1+c.below(most), c.below(pick(c, 1, 4, 257)))
}

// net is a sound one, of rates up to some one.
func (c *chance) net() api.Net {
	n := api.Net{Nodes: 1 + c.below(pick(c, 2, 6, 32))}
	most := pick(c, 1, 3, 64)
	for range c.below(pick(c, 2, 8, 30, 97)) {
		n.Arcs = append(n.Arcs, c.arc(c.below(n.Nodes), c.below(n.Nodes), most))
	}
	return n
}

// spoil changes some numbers of a net, which may make it wrong or not.
func (c *chance) spoil(n *api.Net) {
	few := []int{least, -65, -1, 0, 1, 2, 31, 32, 33, 64, 65, 256, 257, greatest}
	for range 1 + c.below(3) {
		if c.below(8) == 0 {
			n.Nodes = pick(c, few...)
		}
		if c.below(8) == 0 {
			n.Arcs = append(n.Arcs, slices.Repeat([]api.Arc{{Give: 1, Take: 1}}, 96-min(96, len(n.Arcs))+c.below(3))...)
		}
		if len(n.Arcs) > 0 {
			a := &n.Arcs[c.below(len(n.Arcs))]
			*pick(c, &a.From, &a.To, &a.Give, &a.Take, &a.Start) = pick(c, few...)
		}
	}
}

// blocks are any ones, most of them of the net's nodes and arcs.
func (c *chance) blocks(n api.Net, many int) []api.Block {
	var blocks []api.Block
	for range many {
		b := block(c.below(max(1, min(33, n.Nodes))), c.below(5), c.below(len(n.Arcs)+1))
		if b.Arc < len(n.Arcs) && c.below(4) > 0 {
			b.Node = n.Arcs[b.Arc].To
		}
		blocks = append(blocks, b)
	}
	return blocks
}

// held is a net of any arcs, and so many blocks in it that hold, many of them by one token.
func (c *chance) held(many int) (api.Net, []api.Block) {
	n := api.Net{Nodes: many + c.below(33-many)}
	names, places := c.order(n.Nodes), c.order(many+c.below(97-many))
	for range places {
		n.Arcs = append(n.Arcs, c.arc(c.below(n.Nodes), c.below(n.Nodes), 64))
	}
	var blocks []api.Block
	few := pick(c, 0, 1, 5, 60, 1000, 2047)
	for i := range many {
		blocks = append(blocks, block(names[i], few+pick(c, 0, 1, c.below(few+3)), places[i]))
	}
	for _, b := range blocks {
		from := pick(c, blocks...)
		n.Arcs[b.Arc] = c.holder(from, b)
		n.Arcs[b.Arc].Start = max(0, min(256, bound(n, blocks, b))-pick(c, 0, 0, 1, 5))
	}
	return n, blocks
}

// holder is an arc that leads from one block's node to another's, with such rates that it can hold that one: often it takes as little as that allows. (A node that fired about twice as often as the other is always held, if little enough is given.)
func (c *chance) holder(from, to api.Block) api.Arc {
	give := 1 + c.below(64)
	if give*from.Fired/(to.Fired+1) >= 64 {
		give = 1
	}
	take := give*from.Fired/(to.Fired+1) + 1
	if c.below(3) == 0 {
		take += c.below(65 - take)
	}
	return arc(from.Node, to.Node, give, take, 0)
}

// loosen gives one of some held blocks' arcs just one token too many, if there is one that can have so many.
func (c *chance) loosen(n api.Net, blocks []api.Block) bool {
	for _, i := range c.order(len(blocks)) {
		if most := bound(n, blocks, blocks[i]); most < 256 {
			n.Arcs[blocks[i].Arc].Start = most + 1
			return true
		}
	}
	return false
}

// order are the numbers from 0 on, so many, in any order.
func (c *chance) order(many int) []int {
	all := upTo(many)
	mix(c, all)
	return all
}

// flaw breaks one of some blocks, as a rule in a way for which P14.1 says ErrBlock.
func (c *chance) flaw(n api.Net, blocks []api.Block) []api.Block {
	all := slices.Clone(blocks)
	b := &all[c.below(len(all))]
	switch c.below(6) {
	case 0:
		b.Node = pick(c, least, -1, n.Nodes, 32, greatest)
	case 1:
		b.Fired = pick(c, least, -1, 4097, greatest)
	case 2:
		b.Arc = pick(c, least, -1, len(n.Arcs), 96, greatest)
	case 3:
		other := block(b.Node, pick(c, b.Fired, 0, 4096), pick(c, b.Arc, 0))
		all = slices.Insert(all, c.below(len(all)+1), other)
	case 4:
		b.Arc = c.below(len(n.Arcs))
	case 5:
		all = slices.Delete(all, 0, 1)
	}
	return all
}
