package svm_test

import (
	"slices"
	"testing"

	"pianola/api"
	"pianola/svm"
)

// TestExamples is P22.1 to P22.5: the chapter's examples.
func TestExamples(t *testing.T) {
	m := opened(t, small())
	is(t, "memory", m.Memory(), 7, 0, 0)
	is(t, "counts", m.Count(), 1)
	is(t, "counters", m.Counters(), 0)
	steps(t, m, api.Event{Kind: api.OpRead, Line: -1, Halt: api.Starved})
	feeds(t, m, 0, 5, 9)
	steps(t, m, api.Event{Kind: api.OpRead, Line: -1})
	steps(t, m, api.Event{Op: 1, Kind: api.OpCall, Line: -1})
	steps(t, m, api.Event{Op: 2, Kind: api.OpGive, Line: 0, Cells: list(1, 2)})
	is(t, "memory", m.Memory(), 7, 5, 0)
	is(t, "counts", m.Count(), 3)
	runs(t, m, 1, api.Done)
	is(t, "output", m.Out(0), 7, 12)
	is(t, "periods", list(m.Periods()), 1)
	is(t, "counts", m.Count(), 1)
	is(t, "fired", m.Fired(), 1, 2)
	is(t, "counters", m.Counters(), 0)
	runs(t, m, 2, api.Starved)
	is(t, "periods", list(m.Periods()), 2)
	is(t, "output", m.Out(0), 7, 12, 12, 21)
	is(t, "memory", m.Memory(), 9, 0, 0)
	is(t, "counts", m.Count(), 1)
	refusesAll(t, m, 1)
	is(t, "output 1", m.Out(1))
	is(t, "output -1", m.Out(-1))

	tick := opened(t, api.Program{Outs: 1, Parts: list(part(api.Tick, greatest, 1)), Ops: list(call(0), write(0, 1), end())})
	for range 3 {
		steps(t, tick, api.Event{Kind: api.OpCall, Line: -1, Halt: api.Failed})
	}
	left := opened(t, api.Program{Ins: 1, Ops: list(read(0, 1), end())})
	feeds(t, left, 0, 1)
	steps(t, left, api.Event{Kind: api.OpRead, Line: -1})
	steps(t, left, api.Event{Op: 1, Line: -1, Halt: api.Trapped})
}

// refusesAll fails, unless a machine of so many inputs refuses what P22.2 and P22.4 say, and is left as it was.
func refusesAll(t *testing.T, m *svm.Machine, ins int) {
	t.Helper()
	memory, counts, counters, periods := m.Memory(), m.Count(), m.Counters(), m.Periods()
	for _, in := range []int{least, -1 << 32, -1, ins, ins + 1, 1 << 32, greatest} {
		for _, tokens := range [][]int{nil, {0}, {1, 2, 3}} {
			if e := m.Feed(in, tokens...); e != api.ErrArg {
				t.Fatalf("feed %d %v: %v", in, tokens, e)
			}
		}
	}
	for _, periods := range []int{least, -1 << 32, -8, -1, 9, 10, 1 << 8, 1 << 32, greatest} {
		if halt, e := m.Run(periods); halt != api.Going || e != api.ErrArg {
			t.Fatalf("run %d: %d %v", periods, halt, e)
		}
	}
	is(t, "memory", m.Memory(), memory...)
	is(t, "counts", m.Count(), counts...)
	is(t, "counters", m.Counters(), counters...)
	is(t, "periods", list(m.Periods()), periods)
}

// TestWrongCalls is P22.2, P22.4 and P22.5: inputs and outputs that a machine does not have, and periods that may not be, at any moment of it.
func TestWrongCalls(t *testing.T) {
	for ins := range 17 {
		p := api.Program{Ins: ins, Outs: ins, Ops: list(end())}
		m := opened(t, p)
		refusesAll(t, m, ins)
		for in := range ins {
			feeds(t, m, in)
			feeds(t, m, in, 5, 6)
		}
		for _, out := range []int{least, -1, ins, ins + 1, 1 << 32, greatest} {
			is(t, "output", m.Out(out))
		}
	}
	m := opened(t, small())
	feeds(t, m, 0, 4, 5, 6)
	for range 39 {
		refusesAll(t, m, 1)
		if _, e := m.Step(); e != api.OK {
			t.Fatal(e)
		}
		for _, out := range []int{least, -1, 1, 2, greatest} {
			is(t, "output", m.Out(out))
		}
	}
	is(t, "output", m.Out(0), 7, 11, 11, 16, 16, 22)
}

// TestStart is P22.1: a new machine has nothing but what lies on its lines, of which later ones lie over earlier ones.
func TestStart(t *testing.T) {
	for _, c := range []struct {
		memory int
		lines  []api.Line
		cells  []int
		counts []int
	}{
		{0, nil, nil, nil},
		{3, nil, list(0, 0, 0), nil},
		{0, list(line(0, 0), line(0, 0)), nil, list(0, 0)},
		{5, list(line(1, 3, 7, 8)), list(0, 7, 8, 0, 0), list(2)},
		{5, list(line(4, 1, least), line(0, 4, 1, 2, 3, greatest)), list(1, 2, 3, greatest, least), list(1, 4)},
		{2, list(line(0, 2, 1, 2), line(0, 2, 3)), list(3, 2), list(2, 1)},
		{2, list(line(0, 2, 3), line(0, 2, 1, 2)), list(1, 2), list(1, 2)},
		{4, list(line(0, 4, 1, 2, 3, 4), line(1, 2, 0, 0), line(2, 2), line(2, 1, 9), line(4, 0)), list(1, 0, 9, 4), list(4, 2, 0, 1, 0)},
	} {
		p := api.Program{Memory: c.memory, Lines: c.lines, Counters: 2, Ins: 1, Outs: 1, Parts: list(part(api.Sum), part(api.Quot)), Ops: list(end())}
		m := opened(t, p)
		stands(t, m, modelOf(p))
		is(t, "memory", m.Memory(), c.cells...)
		is(t, "counts", m.Count(), c.counts...)
		is(t, "counters", m.Counters(), 0, 0)
		is(t, "fired", m.Fired(), 0, 0)
		is(t, "output", m.Out(0))
		is(t, "periods", list(m.Periods()), 0)
	}
}

// TestFeed is P22.2: what is fed is read in that order, of each input by itself, whenever it is fed.
func TestFeed(t *testing.T) {
	p := api.Program{Ins: 2, Outs: 2, Ops: list(read(0, 2), write(1, 2), read(1, 1), write(0, 1), end())}
	m := opened(t, p)
	feeds(t, m, 1, 50, 51)
	feeds(t, m, 0, 1)
	runs(t, m, 1, api.Starved)
	feeds(t, m, 0)
	runs(t, m, 1, api.Starved)
	feeds(t, m, 0, least, 3, 4)
	runs(t, m, 0, api.Done)
	is(t, "output", m.Out(1))
	runs(t, m, 8, api.Starved)
	is(t, "output", m.Out(1), 1, least, 3, 4)
	is(t, "output", m.Out(0), 50, 51)
	feeds(t, m, 0, greatest)
	runs(t, m, 1, api.Starved)
	feeds(t, m, 0, -6)
	runs(t, m, 1, api.Starved)
	is(t, "output", m.Out(1), 1, least, 3, 4, greatest, -6)
	feeds(t, m, 1, 52)
	runs(t, m, 1, api.Done)
	is(t, "output", m.Out(0), 50, 51, 52)
	is(t, "periods", list(m.Periods()), 3)
}

// TestManyTokens is P22.2: a great many tokens, fed at once and one by one, are read and written in their order.
func TestManyTokens(t *testing.T) {
	m := opened(t, api.Program{Ins: 1, Outs: 1, Counters: 2, Ops: list(head(0, 64), head(1, 256), read(0, 1), write(0, 1), back(1, 2), back(0, 1), end())})
	all := rising(-7, 1<<17)
	feeds(t, m, 0, all[:1<<16]...)
	runs(t, m, 4, api.Done)
	for _, token := range all[1<<16:] {
		feeds(t, m, 0, token)
	}
	runs(t, m, 5, api.Starved)
	is(t, "output", m.Out(0), all...)
}

// TestRun is P22.4: so many periods more, from wherever the machine is.
func TestRun(t *testing.T) {
	m := opened(t, api.Program{Outs: 1, Parts: list(part(api.Tick, 0, 1)), Ops: list(call(0), write(0, 1), end())})
	all := 0
	for periods := range 9 {
		runs(t, m, periods, api.Done)
		all += periods
		is(t, "periods", list(m.Periods()), all)
		is(t, "output", m.Out(0), rising(0, all)...)
		is(t, "fired", m.Fired(), all)
	}
	steps(t, m, api.Event{Kind: api.OpCall, Line: -1})
	runs(t, m, 0, api.Done)
	is(t, "output", m.Out(0), rising(0, all)...)
	steps(t, m, api.Event{Op: 1, Kind: api.OpWrite, Line: -1})
	runs(t, m, 1, api.Done)
	is(t, "output", m.Out(0), rising(0, all+1)...)
	steps(t, m, api.Event{Kind: api.OpCall, Line: -1})
	runs(t, m, 2, api.Done)
	is(t, "output", m.Out(0), rising(0, all+3)...)
	steps(t, m, api.Event{Kind: api.OpCall, Line: -1})
}

// TestStanding is P22.2 to P22.4: a machine that is Failed or Trapped tells the same again, whatever it is fed, and does no more.
func TestStanding(t *testing.T) {
	line0, hand := list(line(0, 2, 4)), list(read(0, 1))
	for _, c := range []struct {
		p    api.Program
		op   int
		halt api.Halt
	}{
		{api.Program{Ops: append(hand, end())}, 1, api.Trapped},
		{api.Program{Ops: append(hand, take(0, 2), end())}, 1, api.Trapped},
		{api.Program{Ops: append(hand, give(0, 2), end())}, 1, api.Trapped},
		{api.Program{Ops: append(hand, write(0, 2), end())}, 1, api.Trapped},
		{api.Program{Ops: append(hand, read(0, 64), end())}, 1, api.Trapped},
		{api.Program{Ops: append(hand, call(0), end())}, 1, api.Trapped},
		{api.Program{Ops: append(hand, read(0, 1), call(0), end())}, 2, api.Failed},
		{api.Program{Ops: append(hand, head(0, 3), write(0, 1), back(0, 2), end())}, 2, api.Trapped},
	} {
		p := c.p
		p.Memory, p.Counters, p.Ins, p.Outs, p.Parts, p.Lines = 2, 1, 1, 1, list(part(api.Quot)), line0
		m, as := opened(t, p), modelOf(p)
		fedBoth(t, m, as, 0, 5, 0)
		halt := api.Going
		for halt == api.Going {
			halt = agrees(t, m, as).Halt
		}
		if halt != c.halt || as.next != c.op {
			t.Fatalf("%s: %d at %d", told(p), halt, as.next)
		}
		for i := range 3 {
			kind := p.Ops[c.op].Kind
			event := api.Event{Op: c.op, Kind: kind, Line: -1, Halt: c.halt}
			if kind == api.OpTake || kind == api.OpGive {
				event.Line = 0
			}
			steps(t, m, event)
			stands(t, m, as)
			runs(t, m, 1+i, c.halt)
			runs(t, m, 8, c.halt)
			stands(t, m, as)
			runs(t, m, 0, api.Done)
			refusesAll(t, m, 1)
			feeds(t, m, 0, rising(1, 70)...)
			stands(t, m, as)
		}
	}
}

// TestStarved is P22.3 and P22.4: a machine that lacks tokens goes on, once it is fed enough.
func TestStarved(t *testing.T) {
	m := opened(t, api.Program{Ins: 1, Outs: 1, Ops: list(read(0, 3), write(0, 3), end())})
	for i := range 3 {
		steps(t, m, api.Event{Kind: api.OpRead, Line: -1, Halt: api.Starved})
		runs(t, m, 1, api.Starved)
		runs(t, m, 0, api.Done)
		feeds(t, m, 0, i)
	}
	steps(t, m, api.Event{Kind: api.OpRead, Line: -1})
	steps(t, m, api.Event{Op: 1, Kind: api.OpWrite, Line: -1})
	steps(t, m, api.Event{Op: 2, Line: -1, Halt: api.Done})
	steps(t, m, api.Event{Kind: api.OpRead, Line: -1, Halt: api.Starved})
	is(t, "output", m.Out(0), 0, 1, 2)
}

// TestLongPeriods is P22.4: as many operations as a period may do, in a row and in loops, in as many periods as a call may ask for.
func TestLongPeriods(t *testing.T) {
	turn := list(take(0, 1), give(0, 1))
	row := append(slices.Repeat(turn, 65535), end())
	loops := list(head(0, 2048), head(1, 20), take(0, 1), give(0, 1), back(1, 2), back(0, 1), end())
	for _, c := range []struct {
		ops   []api.Op
		turns int
	}{{row, 65535}, {loops, 2048 * 20}} {
		m := opened(t, api.Program{Memory: 5, Counters: 2, Lines: list(line(1, 3, 7, 8)), Ops: c.ops})
		runs(t, m, 8, api.Done)
		is(t, "periods", list(m.Periods()), 8)
		is(t, "counts", m.Count(), 2)
		is(t, "counters", m.Counters(), 0, 0)
		// The first token lies as many cells on as the line was turned.
		is(t, "cells", advance(t, m, api.OpTake).Cells, 1+8*c.turns%3)
	}
	ticking := opened(t, api.Program{Counters: 2, Outs: 1, Parts: list(part(api.Tick, 0, 1)), Ops: list(head(0, 2047), head(1, 20), call(0), write(0, 1), back(1, 2), back(0, 1), end())})
	runs(t, ticking, 8, api.Done)
	is(t, "output", ticking.Out(0), rising(0, 8*2047*20)...)
	is(t, "fired", ticking.Fired(), 8*2047*20)
}

// advance goes on to the next operation of a kind, does it and tells its event.
func advance(t *testing.T, m *svm.Machine, kind api.OpKind) api.Event {
	t.Helper()
	for {
		event, e := m.Step()
		if e != api.OK || event.Halt > api.Done {
			t.Fatal(event, e)
		}
		if event.Kind == kind {
			return event
		}
	}
}
