package balance_test

import (
	"slices"

	"pianola/api"
)

// chance gives numbers without any order that is to be seen, the same ones at each run.
type chance uint64

func (c *chance) below(n int) int {
	*c = *c*6364136223846793005 + 1442695040888963407
	return int(uint64(*c)>>33) % n
}

func pick[T any](c *chance, of ...T) T { return of[c.below(len(of))] }

func mix[T any](c *chance, list []T) {
	for i := range list {
		j := i + c.below(len(list)-i)
		list[i], list[j] = list[j], list[i]
	}
}

// net is a sound one, of rates up to some one and any starts.
func (c *chance) net() api.Net {
	n := api.Net{Nodes: 1 + c.below(pick(c, 2, 6, 32))}
	most := pick(c, 1, 2, 3, 8, 64)
	for range c.below(pick(c, 2, 5, 12, 30, 97)) {
		n.Arcs = append(n.Arcs, c.arc(c.below(n.Nodes), c.below(n.Nodes), most))
	}
	return n
}

// arc is a sound one between these ends, its rates up to some one.
func (c *chance) arc(from, to, most int) api.Arc {
	return api.Arc{From: from, To: to, Give: 1 + c.below(most), Take: 1 + c.below(most), Start: c.below(257)}
}

// level is a net with which some counts balance, at most so many arcs.
func (c *chance) level(nodes, arcs int) api.Net {
	counts := make([]int, nodes)
	some := pick(c,
		[]int{1, 2, 3, 4, 6, 12},
		[]int{1, 2, 4, 8, 16, 32, 64, 128, 256, 512, 1024, 2048, 4096},
		[]int{1, 60, 64, 63, 3600, 4096, 4032, 3969},
		[]int{5, 7, 11, 35, 55, 77, 385, 770, 3465, 3850},
		[]int{1, 2, 3, 4, 5, 6, 7, 8, 9, 10, 11, 12, 13, 14, 15, 16},
	)
	for node := range counts {
		counts[node] = pick(c, some...)
	}
	n := api.Net{Nodes: nodes}
	for range arcs {
		if a, is := c.levelArc(counts); is {
			n.Arcs = append(n.Arcs, a)
		}
	}
	return n
}

// levelArc is an arc on which these counts balance, unless its rates would be too great.
func (c *chance) levelArc(counts []int) (api.Arc, bool) {
	a := c.arc(c.below(len(counts)), c.below(len(counts)), 1)
	common := gcd(counts[a.From], counts[a.To])
	a.Give, a.Take = counts[a.To]/common, counts[a.From]/common
	room := 64 / max(a.Give, a.Take)
	if room == 0 {
		return a, false
	}
	times := 1 + c.below(room)
	a.Give, a.Take = a.Give*times, a.Take*times
	return a, true
}

func gcd(a, b int) int {
	for b != 0 {
		a, b = b, a%b
	}
	return a
}

// tilt changes a rate of some arcs a little.
func (c *chance) tilt(n api.Net, many int) {
	for range many * min(1, len(n.Arcs)) {
		a := &n.Arcs[c.below(len(n.Arcs))]
		rate := pick(c, &a.Give, &a.Take)
		*rate = min(64, max(1, *rate+pick(c, -1, 1)))
	}
}

// row is a net in which all nodes are in one row, in any order, with rates up to some one, and so many arcs more that balance or not.
func (c *chance) row(nodes, most, more int) api.Net {
	names := upTo(nodes)
	mix(c, names)
	n := api.Net{Nodes: nodes}
	for i := 1; i < nodes; i++ {
		two := [2]int{names[i-1], names[i]}
		if c.below(2) == 0 {
			two[0], two[1] = two[1], two[0]
		}
		n.Arcs = append(n.Arcs, c.arc(two[0], two[1], most))
	}
	for range more {
		n.Arcs = append(n.Arcs, c.arc(c.below(nodes), c.below(nodes), most))
	}
	mix(c, n.Arcs)
	return n
}

// spoil changes some numbers of a net, which may make it wrong or not.
func (c *chance) spoil(n *api.Net) {
	few := []int{least, -65, -1, 0, 1, 2, 31, 32, 33, 64, 65, 256, 257, greatest}
	for range 1 + c.below(3) {
		if c.below(8) == 0 {
			n.Nodes = pick(c, few...)
		}
		if c.below(8) == 0 {
			n.Arcs = append(n.Arcs, slices.Repeat([]api.Arc{{Give: 1, Take: 1}}, 96-min(96, len(n.Arcs))+c.below(3))...)
		}
		if len(n.Arcs) > 0 {
			a := &n.Arcs[c.below(len(n.Arcs))]
			*pick(c, &a.From, &a.To, &a.Give, &a.Take, &a.Start) = pick(c, few...)
		}
	}
}

// manyNets are sound ones: of any arcs, such that balance, such that all but balance, and rows.
func manyNets(c *chance, many int) []api.Net {
	var all []api.Net
	for range many {
		level, near := c.level(1+c.below(32), c.below(97)), c.level(1+c.below(pick(c, 3, 10, 32)), c.below(97))
		c.tilt(near, 1+c.below(3))
		all = append(all, c.net(), level, near, c.row(1+c.below(32), pick(c, 1, 2, 4, 64), pick(c, 0, 1, 40)))
	}
	return all
}
