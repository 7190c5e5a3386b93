package nest_test

import (
	"slices"

	"pianola/api"
)

// chance gives numbers without any order that is to be seen, the same ones at each run.
type chance uint64

func (c *chance) below(n int) int {
	*c = *c*6364136223846793005 + 1442695040888963407
	return int(uint64(*c)>>33) % n
}

func pick[T any](c *chance, of ...T) T { return of[c.below(len(of))] }

// total is how many firings a nest is to have: as a rule few, or nearly as many as there may be.
func (c *chance) total() int {
	return pick(c, 0, 1, 2, 1+c.below(12), 1+c.below(100), 1+c.below(2048), 1024, 1800, 2046, 2047, 2048, 2048)
}

// nest is a sound one of just so many firings, with at most so many blocks within one another.
func (c *chance) nest(total, deep int) []api.Loop {
	var all []api.Loop
	for total > 0 {
		part := min(total, 1+c.below(pick(c, 3, 10, 100, total)))
		all = append(all, c.loop(part, deep))
		total -= part
	}
	return all
}

// loop is a sound one of just so many firings.
func (c *chance) loop(total, deep int) api.Loop {
	if deep == 0 || c.below(4) == 0 {
		if total > 1 && deep > 0 && c.below(2) == 0 {
			return block(1, c.nest(total, deep-1)...)
		}
		return leaf(c.below(pick(c, 2, 32)), total)
	}
	times := pick(c, 1, 2, 2, 3, 4, 7)
	if total%times != 0 {
		times = 1
	}
	return block(times, c.nest(total/times, deep-1)...)
}

// loops are pointers to all loops of a nest, so that they can be changed.
func loops(of []api.Loop) []*api.Loop {
	var all []*api.Loop
	for i := range of {
		all = append(all, &of[i])
		all = append(all, loops(of[i].Body)...)
	}
	return all
}

// spoil changes a loop of a nest, which makes it wrong as a rule.
func (c *chance) spoil(of []api.Loop) {
	all := loops(of)
	if len(all) == 0 {
		return
	}
	loop := pick(c, all...)
	switch c.below(6) {
	case 0:
		loop.Times = pick(c, least, -1, 0)
	case 1:
		loop.Times = pick(c, loop.Times+1, loop.Times+2, 2048, 2049, 1<<32, 1<<62, greatest)
	case 2:
		loop.Node = pick(c, least, -1, 1, 31, 32, greatest)
	case 3:
		*loop = within(1+c.below(17), *loop)
	case 4:
		loop.Body = append(slices.Clone(loop.Body), leaf(c.below(33), 1))
	case 5:
		*loop = block(1, append(ones(pick(c, 3, 1000, 2047, 2048)), *loop)...)
	}
}

// list are numbers, some of which stand several times one behind the other.
func (c *chance) list(many int, of ...int) []int {
	var list []int
	for len(list) < many {
		list = append(list, slices.Repeat([]int{pick(c, of...)}, 1+c.below(pick(c, 1, 3, 40)))...)
	}
	return list[:many]
}

// nodes are all that there may be.
func nodes() []int {
	var all []int
	for node := range 32 {
		all = append(all, node)
	}
	return all
}
