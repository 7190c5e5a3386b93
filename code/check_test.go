package code_test

import (
	"slices"
	"testing"

	"pianola/api"
)

// changed is a program, once it has been turned so.
func changed(p api.Program, turn func(p *api.Program)) api.Program {
	p = copied(p)
	turn(&p)
	return p
}

// TestExamples is P20.1 and P20.2: the chapter's examples.
func TestExamples(t *testing.T) {
	sound(t, small(), 11)
	refused(t, changed(small(), func(p *api.Program) { p.Ops[3].B = 0 }), api.ErrLoops)
	refused(t, changed(small(), func(p *api.Program) { p.Ops = p.Ops[:4] }), api.ErrOp)
	refused(t, changed(small(), func(p *api.Program) { p.Ops[2].A = 1 }), api.ErrOp)
}

// TestNumbersOfAProgram is P20.1: Memory, Counters, Ins and Outs at both ends of what they may be, and beyond.
func TestNumbersOfAProgram(t *testing.T) {
	for _, c := range []struct {
		most int
		of   func(p *api.Program) *int
	}{
		{1024, func(p *api.Program) *int { return &p.Memory }}, {17, func(p *api.Program) *int { return &p.Counters }},
		{16, func(p *api.Program) *int { return &p.Ins }}, {16, func(p *api.Program) *int { return &p.Outs }},
	} {
		for n := range c.most + 1 {
			p := api.Program{Ops: ops()}
			*c.of(&p) = n
			sound(t, p, 1)
		}
		for _, n := range []int{least, -1 << 32, -1, c.most + 1, c.most + 2, 1 << 21, 1 << 32, greatest} {
			for _, p := range []api.Program{{Ops: ops()}, {}, small(), many(), {Parts: make([]api.Part, 33), Lines: make([]api.Line, 97)}} {
				*c.of(&p) = n
				refused(t, p, api.ErrArg)
			}
		}
	}
}

// TestTooMany is P20.1: as many parts, lines and operations as there may be, and one more, ahead of what is wrong with them.
func TestTooMany(t *testing.T) {
	sound(t, many(), 131072)
	for _, p := range []api.Program{
		changed(many(), func(p *api.Program) { p.Parts = append(p.Parts, p.Parts[0]) }),
		changed(many(), func(p *api.Program) { p.Lines = append(p.Lines, p.Lines[0]) }),
		changed(many(), func(p *api.Program) { p.Ops = append(p.Ops[:131071], call(0), end()) }),
		{Parts: make([]api.Part, 33)}, {Lines: make([]api.Line, 97)}, {Ops: make([]api.Op, 131073)},
		{Parts: make([]api.Part, 1000), Lines: list(line(-1, 0))}, {Parts: list(part(0)), Lines: make([]api.Line, 1<<16)},
		{Parts: list(part(0)), Lines: list(line(-1, 0)), Ops: make([]api.Op, 1<<20)},
	} {
		refused(t, p, api.ErrMany)
	}
}

// TestParts is P20.1: shape's errors, of each part, the first one's first.
func TestParts(t *testing.T) {
	for at := range 4 {
		for _, c := range []struct {
			api.Part
			why api.Errno
		}{
			{part(0), api.ErrTag}, {part(12), api.ErrTag}, {part(255, 1), api.ErrTag},
			{part(api.Filter), api.ErrParams}, {part(api.Tick, 1), api.ErrParams}, {part(api.Up, 65), api.ErrParams}, {part(api.Sum, make([]int, 1<<16)...), api.ErrParams},
		} {
			p := wide()
			p.Parts = slices.Insert(slices.Repeat(list(part(api.Quot)), 3), at, c.Part)
			refused(t, p, c.why)
			p.Lines[0].Region.Size = -1
			refused(t, p, c.why)
			p.Parts = append(p.Parts, part(0), part(api.Sum, 1))
			refused(t, p, c.why)
		}
	}
}

// TestRegions is P20.1: a line's Base and Size, small and great.
func TestRegions(t *testing.T) {
	for _, memory := range []int{0, 1, 5, 1024} {
		numbers := []int{least, least + 1, -1 << 62, -memory - 1, -memory, -2, -1, 0, 1, 2, 3, 4, 5, 6, memory - 1, memory, memory + 1, 1 << 62, greatest - memory, greatest - 1, greatest}
		for _, base := range numbers {
			for _, size := range numbers {
				why := api.OK
				if base < 0 || size < 0 || base > memory || size > memory || base+size > memory {
					why = api.ErrSize
				}
				for at := range 3 {
					p := api.Program{Memory: memory, Lines: slices.Repeat(list(line(0, memory)), 3), Ops: ops()}
					p.Lines[at] = line(base, size)
					checkIs(t, p, why)
				}
			}
		}
	}
}

// TestStarts is P20.1: up to Size tokens on a line, whatever they are, behind what is wrong with its region, and ahead of the lines behind it.
func TestStarts(t *testing.T) {
	for size := range 1025 {
		tokens := slices.Repeat([]int{least, -1, 0, greatest}, 300)
		p := api.Program{Memory: 1024, Lines: list(line(0, 1), line(1024-size, size)), Ops: ops()}
		for _, tokens := range [][]int{nil, tokens[:size/2], tokens[:size]} {
			p.Lines[1].Start = tokens
			checkIs(t, p, api.OK)
		}
		for _, many := range []int{size + 1, size + 7, 1100} {
			p.Lines[1].Start = tokens[:many]
			refused(t, p, api.ErrStart)
			refused(t, changed(p, func(p *api.Program) { p.Lines[1].Region.Base++ }), api.ErrSize)
			refused(t, changed(p, func(p *api.Program) { p.Lines = append(p.Lines, line(-1, 0)) }), api.ErrStart)
			refused(t, changed(p, func(p *api.Program) { p.Lines[0].Region.Size = -1 }), api.ErrSize)
			refused(t, changed(p, func(p *api.Program) { p.Ops = nil }), api.ErrStart)
		}
	}
}

// TestTable is P20.1: each kind, with A and B at both ends of what the table lets be, and beyond.
func TestTable(t *testing.T) {
	for _, p := range []api.Program{wide(), small(), {Ops: ops()}, {Counters: 17, Ins: 16, Outs: 16, Ops: ops()}} {
		for kind := range 256 {
			p.Ops = ops(list(op(api.OpKind(kind), 0, 0), end(), end()))
			if kind > 7 {
				for _, n := range []int{-1, 0, 1, 64} {
					p.Ops[0].A, p.Ops[0].B = n, 1
					refused(t, p, api.ErrOp)
				}
				continue
			}
			r := table(p)[kind]
			for _, a := range []int{least, -1 << 32, -2, -1, 0, 1, r.below - 2, r.below - 1, r.below, r.below + 1, 1 << 32, greatest} {
				for _, b := range []int{least, -1 << 32, -1, 0, 1, 2, r.low, r.high - 1, r.high, r.high + 1, 1 << 32, 1<<32 + 1, greatest} {
					p.Ops = ops(list(op(api.OpKind(kind), a, b)))
					agrees(t, p)
					p.Ops = ops(list(op(api.OpKind(kind), a, b), op(9, 0, 0)))
					agrees(t, p)
				}
			}
		}
	}
}

// TestPlainOps is P20.1: what the table lets be of the operations that are of no loop.
func TestPlainOps(t *testing.T) {
	p := wide()
	for b := 1; b <= 64; b++ {
		p.Ops = ops(list(op(api.OpTake, 0, b), op(api.OpTake, 2, b), op(api.OpRead, 0, b), op(api.OpRead, 1, b), call(0), call(2), op(api.OpGive, 0, b), op(api.OpGive, 2, b), op(api.OpWrite, 0, b), op(api.OpWrite, 1, b)))
		sound(t, p, 11)
	}
	for _, wrong := range []api.Op{
		op(api.OpTake, 3, 1), op(api.OpTake, 0, 0), op(api.OpTake, 0, 65), op(api.OpRead, 2, 1), op(api.OpRead, 0, 0), op(api.OpRead, 0, 65),
		op(api.OpCall, 3, 0), op(api.OpCall, 0, 1), op(api.OpCall, 0, -1), op(api.OpGive, 3, 1), op(api.OpGive, 0, 0), op(api.OpGive, 0, 65),
		op(api.OpWrite, 2, 1), op(api.OpWrite, 0, 0), op(api.OpWrite, 0, 65), op(api.OpEnd, 1, 0), op(api.OpEnd, 0, 1), op(api.OpEnd, -1, 0), op(8, 0, 0),
	} {
		for _, all := range [][]api.Op{ops(list(wrong)), ops(loop(0, 0, 2, wrong)), append(ops(list(call(0)))[:1], wrong)} {
			p.Ops = all
			refused(t, p, api.ErrOp)
		}
	}
}

// TestEnds is P20.1: the last operation, and no other one, is an end.
func TestEnds(t *testing.T) {
	p := wide()
	for _, all := range [][]api.Op{
		nil, {}, {call(0)}, {end(), end()}, {end(), call(0)}, {call(0), end(), end()}, {end(), call(0), end()}, loop(0, 0, 1), loop(0, 0, 1, call(0)),
		loop(0, 0, 3)[:1], loop(0, 0, 3, call(0))[:2], within(0, 2, 2)[:3], ops(loop(0, 0, 3, end())),
	} {
		p.Ops = all
		refused(t, p, api.ErrOp)
	}
	p.Ops = ops()
	sound(t, p, 1)
}

// TestLoopsThatDoNotClose is P20.1: heads, backs and an end that do not go together.
func TestLoopsThatDoNotClose(t *testing.T) {
	head := func(a int) api.Op { return op(api.OpHead, a, 2) }
	back := func(a, b int) api.Op { return op(api.OpBack, a, b) }
	p := wide()
	for _, all := range [][]api.Op{
		{back(0, 0)}, {back(0, 1)}, {call(0), back(0, 1)}, {head(0)}, {head(0), call(0)}, {head(0), head(1), back(1, 2)},
		{head(0), back(1, 1)}, {head(1), back(0, 1)}, {head(0), back(0, 0)}, {head(0), back(0, 2)}, {head(0), call(0), back(0, 2)}, {head(0), call(0), back(0, 0)},
		{head(0), head(0), back(0, 2), back(0, 1)}, {head(0), head(1), head(0), back(0, 3), back(1, 2), back(0, 1)},
		{head(0), head(1), back(0, 1), back(1, 2)}, {head(0), head(1), back(0, 2), back(1, 1)}, {head(0), head(1), back(1, 1), back(0, 2)}, {head(0), head(1), back(1, 2), back(1, 1)},
		{head(0), back(0, 1), back(0, 1)}, {head(0), head(1), back(1, 2), back(0, 1), back(0, 1)}, {head(0), back(0, 1), head(0), back(0, 1)}, {call(0), head(0), back(0, 1)},
	} {
		p.Ops = ops(all)
		refused(t, p, api.ErrLoops)
	}
	for _, all := range [][]api.Op{
		{head(0), back(0, 1)}, {head(2), back(2, 1), head(2), back(2, 3)}, {head(2), head(0), back(0, 2), head(0), back(0, 4), head(1), back(1, 6), back(2, 1)},
	} {
		p.Ops = ops(all)
		agrees(t, p)
		checkIs(t, p, api.OK)
	}
}

// TestFirstOpCounts is P20.1: of what is wrong with operations, the first one counts; of one operation, ErrOp.
func TestFirstOpCounts(t *testing.T) {
	p := wide()
	for _, c := range []struct {
		all []api.Op
		why api.Errno
	}{
		{list(op(api.OpBack, 0, 9), op(api.OpBack, 0, 1)), api.ErrOp}, {list(op(api.OpBack, 0, 1), op(api.OpBack, 0, 9)), api.ErrLoops},
		{list(op(api.OpHead, 0, 2), op(api.OpHead, 0, 0)), api.ErrOp}, {list(op(api.OpHead, 0, 2), op(api.OpHead, 0, 2), call(9)), api.ErrLoops},
		{list(op(api.OpHead, 0, 2), call(9)), api.ErrOp}, {list(op(api.OpHead, 0, 2), end()), api.ErrOp}, {list(op(api.OpBack, 3, 1)), api.ErrOp},
	} {
		p.Ops = ops(c.all)
		refused(t, p, c.why)
	}
	p.Ops = within(0, 2048, 2048, 2048)
	refused(t, p, api.ErrOp)
	p.Ops = append(p.Ops[:5], end())
	refused(t, p, api.ErrLoops)
	p.Ops = ops(within(0, 2048, 2048, 2048), list(call(3)))
	refused(t, p, api.ErrOp)
	p.Ops = ops(within(0, 2048, 2048, 2048), list(call(2)))
	refused(t, p, api.ErrTooBig)
}

// TestDeepLoops is P20.1: as many loops within one another as there are counters, and no more.
func TestDeepLoops(t *testing.T) {
	for counters := range 18 {
		p := api.Program{Counters: counters, Ops: ops(within(0, slices.Repeat(list(1), counters)...))}
		sound(t, p, 2*counters+1)
		p.Ops = ops(within(0, slices.Repeat(list(1), counters+1)...))
		refused(t, p, api.ErrOp)
		if counters > 0 {
			p.Ops[counters].A, p.Ops[counters+1].A = 0, 0
			refused(t, p, api.ErrLoops)
		}
	}
}

// TestEveryShortProgram is P20.1 and P20.2: all rows of up to five operations out of some, against a model.
func TestEveryShortProgram(t *testing.T) {
	some := list(call(0), end(), op(api.OpHead, 0, 2), op(api.OpHead, 1, 3), op(api.OpBack, 0, 1), op(api.OpBack, 0, 2), op(api.OpBack, 1, 1), op(api.OpBack, 1, 2), call(1))
	met := map[api.Errno]int{}
	p := api.Program{Counters: 2, Parts: list(part(api.Sum))}
	var from func(all []api.Op)
	from = func(all []api.Op) {
		p.Ops = all
		e := refusalOf(p)
		checkIs(t, p, e)
		if e == api.OK {
			sound(t, p, int(stepsOf(all).Int64()))
		}
		met[e]++
		for i := 0; i < len(some) && len(all) < 5; i++ {
			from(append(slices.Clone(all), some[i]))
		}
	}
	from(nil)
	if met[api.OK] < 10 || met[api.ErrOp] < 1000 || met[api.ErrLoops] < 1000 {
		t.Error("too few of a kind", met)
	}
}

// TestMixedPrograms is P20.1 to P20.4: programs that are sound but for some changes, against a model.
func TestMixedPrograms(t *testing.T) {
	c := chance(201)
	met := map[api.Errno]int{}
	for round := range 6000 {
		p := c.program()
		if round%4 > 0 {
			c.spoil(&p)
		}
		if len(p.Ops) < 400 {
			met[agrees(t, p)]++
		}
	}
	for _, e := range []api.Errno{api.OK, api.ErrArg, api.ErrMany, api.ErrTag, api.ErrParams, api.ErrSize, api.ErrStart, api.ErrOp, api.ErrLoops, api.ErrTooBig} {
		if met[e] < 30 {
			t.Errorf("%v: %d only", e, met[e])
		}
	}
}
