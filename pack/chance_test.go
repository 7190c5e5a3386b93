package pack_test

import (
	"slices"

	"pianola/api"
)

// chance gives numbers without any order that is to be seen, the same ones at each run.
type chance uint64

func (c *chance) below(n int) int {
	*c = *c*6364136223846793005 + 1442695040888963407
	return int(uint64(*c)>>33) % n
}

func pick[T any](c *chance, of ...T) T { return of[c.below(len(of))] }

func mix[T any](c *chance, list []T) {
	for i := range list {
		j := i + c.below(len(list)-i)
		list[i], list[j] = list[j], list[i]
	}
}

func gcd(a, b int) int {
	for b != 0 {
		a, b = b, a%b
	}
	return a
}

// homing is a net, and a list that fires and comes home: each arc has at the start what the list needs, or some more.
func (c *chance) homing() (api.Net, []int) {
	n := api.Net{Nodes: 1 + c.below(pick(c, 3, 6, 12, 32))}
	var reps, list []int
	for node := range n.Nodes {
		reps = append(reps, pick(c, 1, 1, 2, 3, 4))
		list = append(list, slices.Repeat([]int{node}, reps[node])...)
	}
	if c.below(3) > 0 {
		mix(c, list)
	}
	for range c.below(pick(c, 4, 12, 30)) {
		from, to := c.below(n.Nodes), c.below(n.Nodes)
		common := gcd(reps[from], reps[to])
		factor := pick(c, 1, 1, 2, 3, 9)
		n.Arcs = append(n.Arcs, arc(from, to, reps[to]/common*factor, reps[from]/common*factor, 0))
	}
	for i, need := range needs(n, list) {
		n.Arcs[i].Start = min(256, need+pick(c, 0, 0, 0, 0, 0, 0, 0, 1, c.below(20)))
	}
	return n, list
}

// needs are how many tokens each arc has to have at the start, so that a list can fire.
func needs(n api.Net, list []int) []int {
	need := make([]int, len(n.Arcs))
	for k, node := range list {
		for i, has := range rowOf(n, list[:k]) {
			if a := n.Arcs[i]; a.To == node {
				need[i] = max(need[i], a.Take-has)
			}
		}
	}
	return need
}

// wished is a net of up to 16 arcs, and a list that comes home, in which the arcs have these peaks, and just these pairs clash (of arcs that have a peak above 0): arc i leads from node 2i to node 2i+1.
func wished(most []int, pairs ...[2]int) (api.Net, []int) {
	n := api.Net{Nodes: 2 * len(most)}
	var list []int
	times := make([]int, len(most))
	for i, peak := range most {
		times[i] = (peak + 63) / 64
		for times[i] > 0 && peak%times[i] > 0 {
			times[i]++
		}
		rate := max(1, peak/max(1, times[i]))
		n.Arcs = append(n.Arcs, arc(2*i, 2*i+1, rate, rate, 0))
		list = slices.Concat(list, slices.Repeat([]int{2 * i}, times[i]), slices.Repeat([]int{2*i + 1}, times[i]))
	}
	for _, pair := range pairs {
		one, other := pair[0], pair[1]
		list = append(list, 2*one, 2*other, 2*other+1, 2*one+1)
	}
	return n, list
}

// wish is a net and a list, made of peaks and pairs that clash.
func (c *chance) wish() (api.Net, []int) {
	most := make([]int, 1+c.below(pick(c, 4, 8, 16)))
	step, high := 1, pick(c, 1, 3, 12, 64)
	if high == 12 && c.below(2) == 0 {
		step = 40
	}
	for i := range most {
		most[i] = step * (1 + c.below(high))
	}
	var pairs [][2]int
	for _, pair := range everyPair(len(most)) {
		if c.below(pick(c, 2, 4)) == 0 {
			pairs = append(pairs, pair)
		}
	}
	mix(c, pairs)
	return wished(most, pairs...)
}

// everyPair are all pairs of numbers below this one, the lesser one first; they rise.
func everyPair(many int) [][2]int {
	var all [][2]int
	for first := range many {
		for second := first + 1; second < many; second++ {
			all = append(all, [2]int{first, second})
		}
	}
	return all
}

// spoil changes some numbers of a net, which may make it wrong or not.
func (c *chance) spoil(n *api.Net) {
	few := []int{least, -65, -1, 0, 1, 2, 31, 32, 33, 64, 65, 256, 257, greatest}
	for range 1 + c.below(3) {
		if c.below(8) == 0 {
			n.Nodes = pick(c, few...)
		}
		if c.below(8) == 0 {
			n.Arcs = append(n.Arcs, slices.Repeat([]api.Arc{{Give: 1, Take: 1}}, 96-min(96, len(n.Arcs))+c.below(3))...)
		}
		if len(n.Arcs) > 0 {
			a := &n.Arcs[c.below(len(n.Arcs))]
			*pick(c, &a.From, &a.To, &a.Give, &a.Take, &a.Start) = pick(c, few...)
		}
	}
}

// flaw is a list that, as a rule, is refused: a node that is none, one that may not fire, or one firing too few.
func (c *chance) flaw(list []int, nodes int) []int {
	at := c.below(len(list) + 1)
	if c.below(3) == 0 && at < len(list) {
		return slices.Delete(slices.Clone(list), at, at+1)
	}
	node := pick(c, least, -1, nodes, nodes+1, 32, greatest, c.below(max(1, nodes)), c.below(max(1, nodes)))
	return slices.Insert(slices.Clone(list), at, node)
}

// change makes another plan of one: some regions lie elsewhere or are greater or less; the total is, as a rule, right.
func (c *chance) change(p api.Plan) api.Plan {
	p.Regions = slices.Clone(p.Regions)
	for range c.below(4) * min(1, len(p.Regions)) {
		r := &p.Regions[c.below(len(p.Regions))]
		switch c.below(8) {
		case 0, 1:
			r.Base = c.below(1 + max(1, min(1024, p.Total)))
		case 2:
			r.Base += pick(c, -1, 1)
		case 3:
			r.Size += pick(c, -1, 1, 1, 2)
		case 4:
			r.Base = pick(c, 1000, 1023, 1024)
		case 5:
			if c.below(4) == 0 {
				*pick(c, &r.Base, &r.Size) = pick(c, least, -1, 0, 1024, 1025, greatest)
			}
		}
	}
	if c.below(12) == 0 {
		p.Regions = append(p.Regions, api.Region{})
	} else if c.below(12) == 0 && len(p.Regions) > 0 {
		p.Regions = p.Regions[1:]
	}
	p.Total = endOf(p.Regions)
	if c.below(10) == 0 {
		p.Total += pick(c, -1, 1, least, 7)
	}
	return p
}
