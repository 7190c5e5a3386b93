package peaks_test

import (
	"slices"

	"pianola/api"
)

// chance gives numbers without any order that is to be seen, the same ones at each run.
type chance uint64

func (c *chance) below(n int) int {
	*c = *c*6364136223846793005 + 1442695040888963407
	return int(uint64(*c)>>33) % n
}

func pick[T any](c *chance, of ...T) T { return of[c.below(len(of))] }

func mix[T any](c *chance, list []T) {
	for i := range list {
		j := i + c.below(len(list)-i)
		list[i], list[j] = list[j], list[i]
	}
}

// net is a sound one: some have tokens enough that much can fire, some have few.
func (c *chance) net() api.Net {
	n := api.Net{Nodes: 1 + c.below(pick(c, 2, 4, 32))}
	rate, start := pick(c, 2, 4, 64), pick(c, 1, 8, 257)
	for range c.below(pick(c, 2, 6, 97)) {
		n.Arcs = append(n.Arcs, arc(c.below(n.Nodes), c.below(n.Nodes), 1+c.below(rate), 1+c.below(rate), c.below(start)))
	}
	return n
}

// list is one that fires, of up to so many: each time one of the nodes that may, as long as there is one.
func (c *chance) list(n api.Net, most int) []int {
	row := rowOf(n, nil)
	var list []int
	for len(list) < most {
		var ready []int
		for node := range n.Nodes {
			if may(n, row, node) {
				ready = append(ready, node)
			}
		}
		if len(ready) == 0 {
			break
		}
		node := pick(c, ready...)
		for i, a := range n.Arcs {
			if a.To == node {
				row[i] -= a.Take
			}
			if a.From == node {
				row[i] += a.Give
			}
		}
		list = append(list, node)
	}
	return list
}

func gcd(a, b int) int {
	for b != 0 {
		a, b = b, a%b
	}
	return a
}

// homing is a net, and a list that fires and comes home: each arc has at the start what the list needs, or some more.
func (c *chance) homing() (api.Net, []int) {
	n := api.Net{Nodes: 1 + c.below(pick(c, 3, 6, 32))}
	var reps, list []int
	for node := range n.Nodes {
		reps = append(reps, pick(c, 1, 1, 2, 3, 4, 6))
		list = append(list, slices.Repeat([]int{node}, reps[node])...)
	}
	mix(c, list)
	for range c.below(pick(c, 4, 12, 97)) {
		from, to := c.below(n.Nodes), c.below(n.Nodes)
		common := gcd(reps[from], reps[to])
		factor := pick(c, 1, 1, 2, 3)
		n.Arcs = append(n.Arcs, arc(from, to, reps[to]/common*factor, reps[from]/common*factor, 0))
	}
	for i, need := range needs(n, list) {
		n.Arcs[i].Start = min(256, need+pick(c, 0, 0, 0, 1, c.below(20)))
	}
	return n, list
}

// needs are how many tokens each arc has to have at the start, so that a list can fire.
func needs(n api.Net, list []int) []int {
	need := make([]int, len(n.Arcs))
	for k, node := range list {
		for i, has := range rowOf(n, list[:k]) {
			if a := n.Arcs[i]; a.To == node {
				need[i] = max(need[i], a.Take-has)
			}
		}
	}
	return need
}

// spoil changes some numbers of a net, which may make it wrong or not.
func (c *chance) spoil(n *api.Net) {
	few := []int{least, -65, -1, 0, 1, 2, 31, 32, 33, 64, 65, 256, 257, greatest}
	for range 1 + c.below(3) {
		if c.below(8) == 0 {
			n.Nodes = pick(c, few...)
		}
		if c.below(8) == 0 {
			n.Arcs = append(n.Arcs, slices.Repeat([]api.Arc{{Give: 1, Take: 1}}, 96-min(96, len(n.Arcs))+c.below(3))...)
		}
		if len(n.Arcs) > 0 {
			a := &n.Arcs[c.below(len(n.Arcs))]
			*pick(c, &a.From, &a.To, &a.Give, &a.Take, &a.Start) = pick(c, few...)
		}
	}
}

// flaw is a list in which, as a rule, something may not be: a node that is none, or one that stands where it may not fire.
func (c *chance) flaw(list []int, nodes int) []int {
	node := pick(c, least, -1, nodes, nodes+1, 32, greatest, c.below(max(1, nodes)), c.below(max(1, nodes)))
	return slices.Insert(slices.Clone(list), c.below(len(list)+1), node)
}
