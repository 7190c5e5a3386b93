package forest_test

import (
	"slices"

	"pianola/api"
)

// chance gives numbers without any order that is to be seen, the same ones at each run.
type chance uint64

func (c *chance) below(n int) int {
	*c = *c*6364136223846793005 + 1442695040888963407
	return int(uint64(*c)>>33) % n
}

func pick[T any](c *chance, of ...T) T { return of[c.below(len(of))] }

func mix[T any](c *chance, list []T) {
	for i := range list {
		j := i + c.below(len(list)-i)
		list[i], list[j] = list[j], list[i]
	}
}

// net is a sound one, of any rates and starts: some have many components, some one.
func (c *chance) net() api.Net {
	n := api.Net{Nodes: 1 + c.below(pick(c, 2, 6, 32))}
	for range c.below(pick(c, 2, 8, 30, 97)) {
		n.Arcs = append(n.Arcs, api.Arc{From: c.below(n.Nodes), To: c.below(n.Nodes), Give: 1 + c.below(64), Take: 1 + c.below(64), Start: c.below(257)})
	}
	return n
}

// tree is a net all of whose arcs are in the forest, in any order and any direction: each node behind the first one hangs on one of the few ahead of it.
func (c *chance) tree(nodes, few int) api.Net {
	names := upTo(nodes)
	mix(c, names)
	n := api.Net{Nodes: nodes}
	for i := 1; i < nodes; i++ {
		two := ends{names[i], names[i-1-c.below(min(i, few))]}
		if c.below(2) == 0 {
			two[0], two[1] = two[1], two[0]
		}
		n.Arcs = append(n.Arcs, linked(nodes, two).Arcs...)
	}
	mix(c, n.Arcs)
	return n
}

// spoil changes some numbers of a net, which may make it wrong or not.
func (c *chance) spoil(n *api.Net) {
	few := []int{least, -65, -1, 0, 1, 2, 31, 32, 33, 64, 65, 256, 257, greatest}
	for range 1 + c.below(3) {
		if c.below(8) == 0 {
			n.Nodes = pick(c, few...)
		}
		if c.below(8) == 0 {
			n.Arcs = append(n.Arcs, slices.Repeat([]api.Arc{{Give: 1, Take: 1}}, 96-min(96, len(n.Arcs))+c.below(3))...)
		}
		if len(n.Arcs) > 0 {
			a := &n.Arcs[c.below(len(n.Arcs))]
			*pick(c, &a.From, &a.To, &a.Give, &a.Take, &a.Start) = pick(c, few...)
		}
	}
}

// greatestNets are sound nets at the limits: every node and arc, all around, in rows and stars, at one node, between two, in pairs, and any.
func greatestNets(c *chance) []api.Net {
	shapes := []func(i int) ends{
		func(i int) ends { return ends{i % 32, (i + 1) % 32} },
		func(i int) ends { return ends{(i + 1) % 32, i % 32} },
		func(i int) ends { return ends{31 - i%32, (32 - i%32) % 32} },
		func(i int) ends { return ends{i * 7 % 32, (i*7 + 7) % 32} },
		func(i int) ends { return ends{i % 32, 31} },
		func(i int) ends { return ends{0, 31 - i%32} },
		func(i int) ends { return ends{31, 31} },
		func(i int) ends { return ends{i % 32, i % 32} },
		func(i int) ends { return ends{30 + i%2, 31 - i%2} },
		func(i int) ends { return ends{i % 32, 31 - i%32} },
		func(i int) ends { return ends{i % 32, (i + 8) % 32} },
		func(i int) ends { return ends{i % 32, (i*i + 5*i) % 32} },
		func(i int) ends { return ends{c.below(32), c.below(32)} },
		func(i int) ends { return ends{c.below(16) * 2, c.below(16) * 2} },
	}
	var all []api.Net
	for _, shape := range shapes {
		n := api.Net{Nodes: 32}
		for i := range 96 {
			two := shape(i)
			n.Arcs = append(n.Arcs, api.Arc{From: two[0], To: two[1], Give: 64, Take: 64 - i%64, Start: 256})
		}
		mixed := api.Net{Nodes: 32, Arcs: slices.Clone(n.Arcs)}
		mix(c, mixed.Arcs)
		all = append(all, n, mixed)
	}
	return all
}

// manyNets are the greatest ones, trees of every kind (long rows and stars among them) with arcs besides or not, and many others.
func manyNets(c *chance, many int) []api.Net {
	all := greatestNets(c)
	for range many {
		n := c.tree(1+c.below(32), pick(c, 1, 2, 5, 31))
		for range c.below(66) * c.below(2) {
			n.Arcs = append(n.Arcs, linked(n.Nodes, ends{c.below(n.Nodes), c.below(n.Nodes)}).Arcs...)
		}
		if c.below(2) == 0 {
			mix(c, n.Arcs)
		}
		all = append(all, c.net(), n)
	}
	return all
}
