package witness_test

import (
	"slices"

	"pianola/api"
)

// chance gives numbers without any order that is to be seen, the same ones at each run.
type chance uint64

func (c *chance) below(n int) int {
	*c = *c*6364136223846793005 + 1442695040888963407
	return int(uint64(*c)>>33) % n
}

func pick[T any](c *chance, of ...T) T { return of[c.below(len(of))] }

func mix[T any](c *chance, list []T) {
	for i := range list {
		j := i + c.below(len(list)-i)
		list[i], list[j] = list[j], list[i]
	}
}

// net is a sound one, of any rates and starts.
func (c *chance) net() api.Net {
	n := api.Net{Nodes: 1 + c.below(pick(c, 2, 6, 32))}
	for range c.below(pick(c, 2, 8, 30, 97)) {
		n.Arcs = append(n.Arcs, c.arc(c.below(n.Nodes), c.below(n.Nodes)))
	}
	return n
}

// arc is a sound one between these ends.
func (c *chance) arc(from, to int) api.Arc {
	return api.Arc{From: from, To: to, Give: 1 + c.below(64), Take: 1 + c.below(64), Start: c.below(257)}
}

// spoil changes some numbers of a net, which may make it wrong or not.
func (c *chance) spoil(n *api.Net) {
	few := []int{least, -65, -1, 0, 1, 2, 31, 32, 33, 64, 65, 256, 257, greatest}
	for range 1 + c.below(3) {
		if c.below(8) == 0 {
			n.Nodes = pick(c, few...)
		}
		if c.below(8) == 0 {
			n.Arcs = append(n.Arcs, slices.Repeat([]api.Arc{{Give: 1, Take: 1}}, 96-min(96, len(n.Arcs))+c.below(3))...)
		}
		if len(n.Arcs) > 0 {
			a := &n.Arcs[c.below(len(n.Arcs))]
			*pick(c, &a.From, &a.To, &a.Give, &a.Take, &a.Start) = pick(c, few...)
		}
	}
}

// steps are any ones, most of them of the net's arcs.
func (c *chance) steps(n api.Net, many int) []api.Step {
	var steps []api.Step
	for range many {
		arc := pick(c, least, -1, len(n.Arcs), 96, greatest)
		if len(n.Arcs) > 0 && c.below(20) > 0 {
			arc = c.below(len(n.Arcs))
		}
		steps = append(steps, api.Step{Arc: arc, Back: c.below(2) == 0})
	}
	return steps
}

// cycle is a net of any arcs, and a cycle of so many steps in it, some along and some back; the products are the same, if it is to be alike, and as chance has it, if not.
func (c *chance) cycle(many int, alike bool) (api.Net, []api.Step) {
	n := api.Net{Nodes: many + c.below(33-many)}
	names := upTo(n.Nodes)
	mix(c, names)
	places := upTo(many + c.below(97-many))
	mix(c, places)
	for range places {
		n.Arcs = append(n.Arcs, c.arc(c.below(n.Nodes), c.below(n.Nodes)))
	}
	var steps []api.Step
	for i := range many {
		step, a := api.Step{Arc: places[i], Back: c.below(2) == 0}, c.arc(names[i], names[(i+1)%many])
		if step.Back {
			a.From, a.To = a.To, a.From
		}
		n.Arcs[step.Arc] = a
		steps = append(steps, step)
	}
	if alike {
		c.level(&n, steps)
	}
	return n, steps
}

// level gives a cycle's arcs such rates that some counts balance on each.
func (c *chance) level(n *api.Net, steps []api.Step) {
	var counts []int
	for range n.Nodes {
		counts = append(counts, pick(c, 1, 2, 3, 4, 6, 8, 9, 12, 16, 21, 30, 32, 48, 64))
	}
	for _, step := range steps {
		a := &n.Arcs[step.Arc]
		a.Give, a.Take = counts[a.To], counts[a.From]
		for _, common := range []int{2, 3, 5} {
			if c.below(2) == 0 && a.Give%common == 0 && a.Take%common == 0 {
				a.Give, a.Take = a.Give/common, a.Take/common
			}
		}
	}
}
