package simul_test

import (
	"slices"

	"pianola/api"
)

// chance gives numbers without any order that is to be seen, the same ones at each run.
type chance uint64

func (c *chance) below(n int) int {
	*c = *c*6364136223846793005 + 1442695040888963407
	return int(uint64(*c)>>33) % n
}

func pick[T any](c *chance, of ...T) T { return of[c.below(len(of))] }

func mix[T any](c *chance, list []T) {
	for i := range list {
		j := i + c.below(len(list)-i)
		list[i], list[j] = list[j], list[i]
	}
}

// counts are as many as nodes, together at most 2048.
func (c *chance) counts(nodes int) []int {
	some := pick(c, []int{1, 1, 1, 2}, []int{1, 2, 3, 4, 6, 12}, []int{4, 6, 8, 12}, []int{1, 2, 4, 8, 16, 32, 64}, []int{5, 7, 35, 10, 14}, []int{48, 60, 64, 36})
	var reps []int
	for range nodes {
		reps = append(reps, pick(c, some...))
	}
	return reps
}

func gcd(a, b int) int {
	for b != 0 {
		a, b = b, a%b
	}
	return a
}

// arcs are up to so many on which the counts balance, without a token.
func (c *chance) arcs(reps []int, many int) []api.Arc {
	var all []api.Arc
	for range many {
		from, to := c.below(len(reps)), c.below(len(reps))
		common := gcd(reps[from], reps[to])
		give, take := reps[to]/common, reps[from]/common
		if room := 64 / max(give, take); room > 0 {
			factor := 1 + c.below(min(room, 4))
			all = append(all, arc(from, to, give*factor, take*factor, 0))
		}
	}
	return all
}

// period is a net, and counts that balance: as a rule its arcs have just the tokens that one order of firings needs, or all but these.
func (c *chance) period(nodes, arcs int) (api.Net, []int) {
	reps := c.counts(nodes)
	n := netOf(nodes, c.arcs(reps, arcs)...)
	row := c.row(reps)
	for i, need := range needs(n, row) {
		n.Arcs[i].Start = min(256, need+pick(c, 0, 0, 0, 1, c.below(20)))
	}
	for range pick(c, 0, 1, 3, 9) * min(1, len(n.Arcs)) {
		a := &n.Arcs[c.below(len(n.Arcs))]
		a.Start = max(0, a.Start-pick(c, 1, 1, 2, a.Take))
	}
	return n, reps
}

// row has each node as often as its count, in any order, or one behind the other, or so that each is done in a few goes.
func (c *chance) row(reps []int) []int {
	var row []int
	for _, node := range c.order(len(reps)) {
		row = append(row, slices.Repeat([]int{node}, reps[node])...)
	}
	switch c.below(4) {
	case 0, 1:
		mix(c, row)
	case 2:
		for range 3 {
			i := c.below(len(row))
			row = append(row[i:], row[:i]...)
		}
	}
	return row
}

// needs are how many tokens each arc has to have at the start, so that a row can fire.
func needs(n api.Net, row []int) []int {
	has, need := make([]int, len(n.Arcs)), make([]int, len(n.Arcs))
	for _, node := range row {
		for i, a := range n.Arcs {
			if a.To == node {
				has[i] -= a.Take
				need[i] = max(need[i], -has[i])
			}
			if a.From == node {
				has[i] += a.Give
			}
		}
	}
	return need
}

// prefer are any nodes: none, some, all, or some of them several times.
func (c *chance) prefer(nodes int) []int {
	switch c.below(4) {
	case 0:
		return nil
	case 1:
		return c.order(nodes)
	case 2:
		return c.order(nodes)[:c.below(nodes+1)]
	}
	var some []int
	for range c.below(2 * nodes) {
		some = append(some, c.below(nodes))
	}
	return some
}

// order are the numbers from 0 on, so many, in any order.
func (c *chance) order(many int) []int {
	all := upTo(many)
	mix(c, all)
	return all
}

// spoil changes some numbers of a net, which may make it wrong or not.
func (c *chance) spoil(n *api.Net) {
	few := []int{least, -65, -1, 0, 1, 2, 31, 32, 33, 64, 65, 256, 257, greatest}
	for range 1 + c.below(3) {
		if c.below(8) == 0 {
			n.Nodes = pick(c, few...)
		}
		if c.below(8) == 0 {
			n.Arcs = append(n.Arcs, slices.Repeat([]api.Arc{{Give: 1, Take: 1}}, 96-min(96, len(n.Arcs))+c.below(3))...)
		}
		if len(n.Arcs) > 0 {
			a := &n.Arcs[c.below(len(n.Arcs))]
			*pick(c, &a.From, &a.To, &a.Give, &a.Take, &a.Start) = pick(c, few...)
		}
	}
}

// flawReps are counts that may not be, as a rule: one more or less of them, or others.
func (c *chance) flawReps(reps []int) []int {
	all := slices.Clone(reps)
	at := c.below(len(all))
	switch c.below(5) {
	case 0:
		return all[:at]
	case 1:
		return append(all, pick(c, 0, 1, greatest))
	case 2:
		all[at] = pick(c, least, -1, 0, all[at]+1, all[at]-1, 4096, 4097, greatest)
	case 3:
		return times(all, pick(c, 2, 3, 2048/sum(all), 2048/sum(all)+1, 4096/slices.Max(all)))
	case 4:
		return times(all, 4096/slices.Max(all)+1)
	}
	return all
}

// flawPrefer are nodes of which one names none, at any place.
func (c *chance) flawPrefer(prefer []int, nodes int) []int {
	return slices.Insert(slices.Clone(prefer), c.below(len(prefer)+1), pick(c, least, -1, nodes, 32, greatest))
}

// sizes are how many nodes and arcs a net is to have: most nets are small.
func (c *chance) sizes() (nodes, arcs int) {
	return 1 + c.below(pick(c, 3, 6, 32)), 1 + c.below(pick(c, 4, 8, 20, 96))
}
