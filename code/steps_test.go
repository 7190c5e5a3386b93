package code_test

import (
	"slices"
	"testing"

	"pianola/api"
)

// done is how many operations a sound program does from place 0 on till its end, one by one.
func done(p api.Program) int {
	counters := make([]int, p.Counters)
	steps := 0
	for at := 0; ; at++ {
		o := p.Ops[at]
		steps++
		switch o.Kind {
		case api.OpEnd:
			return steps
		case api.OpHead:
			counters[o.A] = o.B
		case api.OpBack:
			counters[o.A]--
			if counters[o.A] > 0 {
				at = o.B - 1
			}
		}
	}
}

// TestStepsAreThoseDone is P20.2: of programs with loops, what a period does, counted one by one.
func TestStepsAreThoseDone(t *testing.T) {
	c := chance(202)
	deep := 0
	for range 3000 {
		p := c.program()
		if e := refusalOf(p); e != api.OK {
			stepsAre(t, p, 0, e)
			continue
		}
		stepsAre(t, p, done(p), api.OK)
		for at := range p.Ops {
			deep = max(deep, len(around(p.Ops, at)))
		}
	}
	if deep < 4 {
		t.Error("no loops within loops:", deep)
	}
}

// TestPrograms is P20.2: the programs that the document's whole examples tell.
func TestPrograms(t *testing.T) {
	p := api.Program{Memory: 2, Counters: 1, Parts: list(part(api.Tick, 1, 1), part(api.Drop, 2)), Lines: list(line(0, 2))}
	p.Ops = ops(loop(0, 0, 2, call(0), op(api.OpGive, 0, 1)), list(op(api.OpTake, 0, 2), call(1)))
	sound(t, p, 10)
	p = api.Program{Memory: 5, Counters: 1, Ins: 1, Outs: 1, Parts: list(part(api.Up, 4), part(api.Down, 2), part(api.Sum)), Lines: list(line(0, 4), line(4, 1))}
	p.Ops = ops(
		list(op(api.OpRead, 0, 1), call(0), op(api.OpGive, 0, 4)),
		loop(3, 0, 2, op(api.OpTake, 0, 2), call(1), op(api.OpGive, 1, 1), op(api.OpTake, 1, 1), call(2), op(api.OpWrite, 0, 1)),
	)
	sound(t, p, 19)
}

// TestStepsOfALoop is P20.2: a loop over so many calls that goes round so often, between calls.
func TestStepsOfALoop(t *testing.T) {
	p := api.Program{Counters: 1, Parts: list(part(api.Sum))}
	calls := slices.Repeat(list(call(0)), 70)
	for many := range 70 {
		for _, times := range []int{1, 2, 3, 64, 1023, 1024, 2047, 2048} {
			p.Ops = ops(calls[:5], loop(5, 0, times, calls[:many]...), calls[:2])
			if steps := 5 + 1 + times*(many+1) + 2 + 1; steps <= 131072 {
				stepsAre(t, p, steps, api.OK)
			} else {
				refused(t, p, api.ErrTooBig)
			}
		}
	}
}

// TestMostSteps is P20.1 and P20.2: MaxOps steps, and one more, with loops, and with loops within one another.
func TestMostSteps(t *testing.T) {
	p := api.Program{Counters: 17, Parts: list(part(api.Sum))}
	calls := slices.Repeat(list(call(0)), 131200)
	row := slices.Concat(loop(0, 0, 2048, calls[:60]...), loop(62, 0, 2, calls[:1000]...))
	nested := loop(0, 0, 64, slices.Concat(loop(1, 1, 31, calls[:60]...), calls[:61])...)
	for _, all := range [][]api.Op{nil, loop(0, 0, 2048), loop(0, 5, 2048, calls[:62]...), row, nested, within(0, slices.Repeat(list(2), 14)...)} {
		steps := int(stepsOf(all).Int64()) + 1
		p.Ops = ops(all, calls[:131072-steps])
		sound(t, p, 131072)
		for _, more := range []int{1, 2, 100} {
			p.Ops = ops(all, calls[:131072-steps+more])
			if len(p.Ops) <= 131072 {
				refused(t, p, api.ErrTooBig)
			}
		}
	}
}

// TestFarTooManySteps is P20.1: steps that would not fit, that would wrap round to few ones, or that many loops have together.
func TestFarTooManySteps(t *testing.T) {
	p := api.Program{Counters: 17, Parts: list(part(api.Sum))}
	for deep := 2; deep <= 17; deep++ {
		for _, times := range []int{2048, 2047, 1024, 512} {
			p.Ops = ops(within(0, slices.Repeat(list(times), deep)...))
			refused(t, p, api.ErrTooBig)
		}
	}
	p.Ops = ops(within(0, slices.Repeat(list(2), 17)...))
	refused(t, p, api.ErrTooBig)
	p.Ops = ops(within(0, slices.Repeat(list(2), 16)...))
	refused(t, p, api.ErrTooBig)
	for many := 60; many < 70; many++ {
		var all []api.Op
		for len(all) < 2*many {
			all = append(all, loop(len(all), 0, 2048)...)
		}
		p.Ops = ops(all)
		if steps := many*2049 + 1; steps <= 131072 {
			stepsAre(t, p, steps, api.OK)
		} else {
			refused(t, p, api.ErrTooBig)
		}
	}
	var all []api.Op
	for len(all) < 131071-200 {
		all = append(all, loop(len(all), 3, 2048, slices.Repeat(list(call(0)), 100)...)...)
	}
	p.Ops = ops(all)
	refused(t, p, api.ErrTooBig)
}
