package svm_test

import (
	"slices"

	"pianola/api"
)

// chance gives numbers without any order that is to be seen, the same ones at each run.
type chance uint64

func (c *chance) below(n int) int {
	*c = *c*6364136223846793005 + 1442695040888963407
	return int(uint64(*c)>>33) % n
}

func pick[T any](c *chance, of ...T) T { return of[c.below(len(of))] }

func (c *chance) tokens(many int) []int {
	var all []int
	for range many {
		all = append(all, pick(c, c.below(20)-10, c.below(1000), 0, 1, -1, least, greatest))
	}
	return all
}

// part is one of any kind, of few ports and tokens as a rule.
func (c *chance) part() api.Part {
	ports := 1 + c.below(3)
	return pick(c,
		part(api.Filter, c.tokens(1+c.below(3))...), part(api.Up, 1+c.below(4)), part(api.Down, 1+c.below(4)),
		part(api.Weave, ports, 1+c.below(3)), part(api.Unweave, ports, 1+c.below(3)), part(api.Add, ports), part(api.Quot),
		part(api.Sum), part(api.Copy, ports), part(api.Tick, c.tokens(2)...), part(api.Drop, 1+c.below(4)), part(api.Up, 64), part(api.Down, 64),
	)
}

// program is one of few cells, the operations of which go together as a rule: what is got is passed on.
func (c *chance) program() api.Program {
	p := api.Program{Memory: 1 + c.below(12), Counters: 3, Ins: 1 + c.below(2), Outs: 1 + c.below(2)}
	for range 1 + c.below(3) {
		p.Parts = append(p.Parts, c.part())
	}
	for range 1 + c.below(3) {
		base := c.below(p.Memory)
		size := pick(c, p.Memory-base, 1+c.below(p.Memory-base))
		p.Lines = append(p.Lines, line(base, size, c.tokens(c.below(size+1))...))
	}
	p.Ops = append(c.phrases(p, 0, 0, 1+c.below(5)), end())
	if c.below(3) == 0 {
		c.spoil(&p)
	}
	return p
}

// phrases are some, the first operation of which stands at a place, within so many loops.
func (c *chance) phrases(p api.Program, place, around, many int) []api.Op {
	var all []api.Op
	for range many {
		if around == p.Counters || c.below(3) > 0 {
			all = append(all, c.phrase(p)...)
			continue
		}
		at := place + len(all)
		all = append(all, head(around, 1+c.below(4)))
		all = append(all, c.phrases(p, at+1, around+1, 1+c.below(2))...)
		all = append(all, back(around, at+1))
	}
	return all
}

// phrase gets tokens, as many as a part takes, if one is called, and then passes on as many as there are.
func (c *chance) phrase(p api.Program) []api.Op {
	if c.below(4) == 0 {
		many := 1 + c.below(4)
		return append(c.moves(many, c.get(p)), c.moves(many, c.put(p))...)
	}
	at := c.below(len(p.Parts))
	m := modelOf(p)
	takes, gives := m.bodies[at].Shape()
	var all []api.Op
	for _, rate := range takes {
		all = append(all, c.moves(rate, c.get(p))...)
	}
	all = append(all, call(at))
	for _, rate := range gives {
		all = append(all, c.moves(rate, c.put(p))...)
	}
	return all
}

func (c *chance) get(p api.Program) api.Op {
	return pick(c, take(c.below(len(p.Lines)), 0), read(c.below(p.Ins), 0))
}

func (c *chance) put(p api.Program) api.Op {
	return pick(c, give(c.below(len(p.Lines)), 0), write(c.below(p.Outs), 0))
}

// moves is an operation on so many tokens, at once or piece by piece.
func (c *chance) moves(many int, o api.Op) []api.Op {
	var all []api.Op
	for many > 0 {
		o.B = pick(c, many, 1+c.below(many))
		many -= o.B
		all = append(all, o)
	}
	return all
}

// spoil changes an operation, so that the program is sound still, but hardly ends a period.
func (c *chance) spoil(p *api.Program) {
	o := &p.Ops[c.below(len(p.Ops))]
	switch o.Kind {
	case api.OpTake, api.OpRead, api.OpGive, api.OpWrite:
		o.B = pick(c, o.B+1, max(1, o.B-1), 64, 1)
		o.B = min(o.B, 64)
	case api.OpCall:
		o.A = c.below(len(p.Parts))
	case api.OpHead:
		o.B = 1 + c.below(9)
	}
	if c.below(2) == 0 && o.Kind != api.OpHead && o.Kind != api.OpBack && o.Kind != api.OpEnd {
		*o = c.moves(1+c.below(3), pick(c, c.get(*p), c.put(*p)))[0]
	}
}

// calm are tokens of which no part makes any that do not fit.
func (c *chance) calm(many int) []int {
	var all []int
	for range many {
		all = append(all, c.below(19)-9)
	}
	return all
}

// pieces are the same tokens in lists, one behind the other, some of them empty.
func (c *chance) pieces(tokens []int) [][]int {
	var all [][]int
	for len(tokens) > 0 {
		many := c.below(min(len(tokens), 5) + 1)
		all = append(all, slices.Clone(tokens[:many]))
		tokens = tokens[many:]
	}
	return all
}
