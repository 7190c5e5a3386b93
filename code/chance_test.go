package code_test

import (
	"slices"

	"pianola/api"
)

// chance gives numbers without any order that is to be seen, the same ones at each run.
type chance uint64

func (c *chance) below(n int) int {
	*c = *c*6364136223846793005 + 1442695040888963407
	return int(uint64(*c)>>33) % n
}

func pick[T any](c *chance, of ...T) T { return of[c.below(len(of))] }

// number is any one, of few bits or of many, below 0 or not.
func (c *chance) number() int {
	n := c.below(1<<31)<<33 ^ c.below(1<<31)<<11 ^ c.below(1<<11)
	return pick(c, 1, -1) * (n >> c.below(64))
}

func (c *chance) numbers(many int) []int {
	var all []int
	for range many {
		all = append(all, pick(c, c.number(), c.number(), c.number(), least, greatest, 63, 64, -64, -65))
	}
	return all
}

// part is one that shape knows.
func (c *chance) part() api.Part {
	ports := 1 + c.below(16)
	return pick(c,
		part(api.Filter, c.numbers(1+c.below(16))...), part(api.Up, 1+c.below(64)), part(api.Down, 1+c.below(64)),
		part(api.Weave, ports, 1+c.below(64/ports)), part(api.Unweave, ports, 1+c.below(64/ports)), part(api.Add, ports),
		part(api.Quot), part(api.Sum), part(api.Copy, ports), part(api.Tick, c.numbers(2)...), part(api.Drop, 1+c.below(64)),
	)
}

// line is one that lies in so many cells.
func (c *chance) line(memory int) api.Line {
	base := c.below(memory + 1)
	size := pick(c, 0, memory-base, c.below(memory-base+1))
	return line(base, size, c.numbers(pick(c, 0, min(size, 20), c.below(min(size, 300)+1)))...)
}

// program is a sound one, but that it may have too many steps.
func (c *chance) program() api.Program {
	p := api.Program{
		Memory: pick(c, 0, 1, 9, 130, 1023, 1024), Counters: pick(c, 0, 1, 2, 3, 16, 17),
		Ins: pick(c, 0, 1, 3, 16), Outs: pick(c, 0, 1, 3, 16),
	}
	for range pick(c, 0, 1, 2, 5, c.below(33)) {
		p.Parts = append(p.Parts, c.part())
	}
	for range pick(c, 0, 1, 2, 5, c.below(97)) {
		p.Lines = append(p.Lines, c.line(p.Memory))
	}
	p.Ops = ops(c.row(p, 0, pick(c, 0, 3, 12, 40), nil))
	return p
}

// row are operations of which the first one stands at a place; such counters are taken.
func (c *chance) row(p api.Program, place, many int, taken []int) []api.Op {
	var all []api.Op
	for range many {
		if counter := c.below(max(1, p.Counters)); c.below(3) == 0 && counter < p.Counters && !slices.Contains(taken, counter) {
			inside := c.row(p, place+len(all)+1, c.below(pick(c, 1, 3, 1+many)), append(slices.Clone(taken), counter))
			all = append(all, loop(place+len(all), counter, pick(c, 1, 2, 3, 4, 4, c.below(20)+1, 2048), inside...)...)
		} else if o, is := c.plain(p); is {
			all = append(all, o)
		}
	}
	return all
}

// plain is an operation that is of no loop, if the program may have it.
func (c *chance) plain(p api.Program) (api.Op, bool) {
	r := table(p)[3+c.below(5)]
	if r.below == 0 {
		return api.Op{}, false
	}
	return op(r.kind, c.below(r.below), pick(c, r.low, r.high, r.low+c.below(r.high-r.low+1))), true
}

// edges are numbers at the edges of what anything may be.
func (c *chance) edge() int {
	return pick(c, least, least+1, -1<<32, -2, -1, 0, 1, 2, 3, 15, 16, 17, 18, 31, 32, 63, 64, 65, 95, 96, 1023, 1024, 1025, 2047, 2048, 2049, 1<<32, 1<<32+1, greatest-1, greatest)
}

// spoil changes some things of a program, which may make it wrong or not.
func (c *chance) spoil(p *api.Program) {
	for range 1 + c.below(3) {
		switch c.below(12) {
		case 0:
			*pick(c, &p.Memory, &p.Counters, &p.Ins, &p.Outs) = c.edge()
		case 1, 2:
			c.spoilParts(p)
		case 3, 4:
			c.spoilLines(p)
		default:
			c.spoilOps(p)
		}
	}
}

func (c *chance) spoilParts(p *api.Program) {
	if c.below(6) == 0 {
		p.Parts = append(p.Parts, slices.Repeat(list(part(api.Sum)), pick(c, 1, 32-min(32, len(p.Parts)), 33))...)
	}
	if len(p.Parts) == 0 {
		return
	}
	one := &p.Parts[c.below(len(p.Parts))]
	switch c.below(4) {
	case 0:
		one.Tag = api.Tag(c.below(14))
	case 1:
		one.Tag = api.Tag(c.below(256))
	case 2:
		one.Params = c.numbers(c.below(18))
	case 3:
		one.Params = list(c.edge())
	}
}

func (c *chance) spoilLines(p *api.Program) {
	if c.below(6) == 0 {
		p.Lines = append(p.Lines, slices.Repeat(list(line(0, 0)), pick(c, 1, 96-min(96, len(p.Lines)), 97))...)
	}
	if len(p.Lines) == 0 {
		return
	}
	one := &p.Lines[c.below(len(p.Lines))]
	switch c.below(4) {
	case 0:
		*pick(c, &one.Region.Base, &one.Region.Size) = c.edge()
	case 1:
		*pick(c, &one.Region.Base, &one.Region.Size) += pick(c, -1, 1, 1)
	case 2:
		one.Region.Size = len(one.Start) - c.below(2)
	case 3:
		one.Start = c.numbers(max(0, min(1025, one.Region.Size)) + pick(c, 0, 1, 1, 3))
	}
}

func (c *chance) spoilOps(p *api.Program) {
	at := c.below(len(p.Ops) + 1)
	other := op(api.OpKind(c.below(10)), c.below(4), c.below(12))
	if at == len(p.Ops) || c.below(4) == 0 {
		p.Ops = slices.Insert(p.Ops, at, pick(c, other, end(), op(api.OpHead, c.below(18), c.below(2049)), op(api.OpBack, c.below(3), c.below(len(p.Ops)+1))))
		return
	}
	one := &p.Ops[at]
	switch c.below(9) {
	case 0:
		p.Ops = slices.Delete(p.Ops, at, at+1)
	case 1:
		one.Kind = api.OpKind(c.below(9))
	case 2:
		one.Kind = api.OpKind(c.below(256))
	case 3, 4:
		*pick(c, &one.A, &one.B) = c.edge()
	case 5, 6:
		*pick(c, &one.A, &one.B) += pick(c, -1, 1)
	case 7:
		*one = p.Ops[c.below(len(p.Ops))]
	case 8:
		p.Ops = p.Ops[:at]
	}
}

// change makes other bytes of some, here and there.
func (c *chance) change(data string) string {
	for range 1 + c.below(2) {
		at, room := c.below(len(data)+1), 1
		if at < 4 && c.below(3) > 0 || at == len(data) {
			at, room = len(data), 0
		}
		some := string([]byte{byte(pick(c, c.below(256), c.below(9), 128+c.below(128), 0, 128, 255))})
		switch c.below(7) {
		case 0:
			data = data[:at]
		case 1:
			data = data[:at] + some + data[at:]
		case 2:
			data = data[:at] + data[at+room:]
		default:
			data = data[:at] + some[:room] + data[at+room:]
		}
	}
	return data
}
