package loops_test

import (
	"slices"

	"pianola/api"
)

// chance gives numbers without any order that is to be seen, the same ones at each run.
type chance uint64

func (c *chance) below(n int) int {
	*c = *c*6364136223846793005 + 1442695040888963407
	return int(uint64(*c)>>33) % n
}

func pick[T any](c *chance, of ...T) T { return of[c.below(len(of))] }

// row is a sound one of at most so many firings, with at most so many blocks within one another: pieces of it stand several times one behind the other.
func (c *chance) row(total, deep int) []api.Loop {
	var all []api.Loop
	for total > 0 {
		piece, cost := c.piece(total, deep)
		for range pick(c, 1, 1, 2, 2, 3, 5) {
			if cost <= total {
				all = append(all, piece...)
				total -= cost
			}
		}
		if c.below(6) == 0 {
			break
		}
		total = max(0, total-c.below(3))
	}
	return all
}

// piece is some loops, and how many firings they have: at most so many.
func (c *chance) piece(total, deep int) ([]api.Loop, int) {
	var all []api.Loop
	cost := 0
	for range 1 + c.below(pick(c, 1, 3, 6, 18)) {
		loop, firings := c.loop(max(1, (total-cost)/2), deep)
		if cost+firings > total {
			break
		}
		all = append(all, loop)
		cost += firings
	}
	if len(all) == 0 {
		return row(leaf(c.below(3), 1)), 1
	}
	return all, cost
}

// loop is a sound one, and how many firings it has: at most so many.
func (c *chance) loop(total, deep int) (api.Loop, int) {
	if deep == 0 || total < 2 || c.below(3) > 0 {
		times := min(total, pick(c, 1, 1, 1, 2, 3))
		return leaf(c.below(pick(c, 1, 2, 3, 32)), times), times
	}
	times := pick(c, 1, 2, 2, 3)
	body := c.row(max(1, min(20, total/times)), deep-1)
	cost := len(firingsOf(body)) * times
	if cost > total {
		return leaf(0, 1), 1
	}
	return block(times, body...), cost
}

// list are nodes, at most so many: pieces of it stand several times one behind the other, within one another, and now and then a number breaks them.
func (c *chance) list(many int) []int {
	nodes := pick(c, 2, 3, 5, 32)
	var list []int
	for range 1 + c.below(4) {
		list = append(list, c.below(nodes))
	}
	for len(list) < many && c.below(40) > 0 {
		switch c.below(4) {
		case 0:
			list = append(list, c.below(nodes))
		case 1:
			list = append([]int{c.below(nodes)}, list...)
		case 2:
			list = slices.Repeat(list, pick(c, 2, 2, 3, 4))
		case 3:
			from := c.below(len(list))
			list = append(list, slices.Repeat(list[from:], pick(c, 1, 1, 2, 5))...)
		}
	}
	list = list[:min(many, len(list))]
	if len(list) > 0 && c.below(4) == 0 {
		list[c.below(len(list))] = c.below(nodes)
	}
	return list
}

// every goes through all rows of these, up to so long.
func every[T any](most int, of []T, look func(row []T)) {
	var grow func(row []T)
	grow = func(row []T) {
		look(row)
		if len(row) == most {
			return
		}
		for _, one := range of {
			grow(append(slices.Clone(row), one))
		}
	}
	grow(nil)
}
