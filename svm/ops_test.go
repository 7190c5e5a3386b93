package svm_test

import (
	"slices"
	"testing"

	"pianola/api"
)

// handed is a program that reads so many tokens in pieces that may be, and then does these operations.
func handed(p api.Program, many int, ops ...api.Op) api.Program {
	p.Ins = max(p.Ins, 1)
	p.Ops = nil
	for ; many > 0; many -= 64 {
		p.Ops = append(p.Ops, read(0, min(64, many)))
	}
	p.Ops = append(p.Ops, ops...)
	p.Ops = append(p.Ops, end())
	return p
}

// last is what the last of so many steps tells, each ahead of which was done, once the machine was fed with 1, 2 and so on; the model goes with it.
func last(t *testing.T, p api.Program, fed, many int) api.Event {
	t.Helper()
	m, as := opened(t, p), modelOf(p)
	fedBoth(t, m, as, 0, rising(1, fed)...)
	for range many - 1 {
		if event := agrees(t, m, as); event.Halt != api.Going {
			t.Fatalf("%s: %v", told(p), event)
		}
	}
	return agrees(t, m, as)
}

// halts fails, unless an event is of the operation at a place, and tells this halt and these cells.
func halts(t *testing.T, p api.Program, event api.Event, at int, halt api.Halt, cells ...int) {
	t.Helper()
	if event.Op != at || event.Halt != halt || !slices.Equal(event.Cells, cells) {
		t.Fatalf("%s: %v, not at %d %d %v", told(p), event, at, halt, cells)
	}
}

// trappedIf is the halt of an operation that is trapped in this case only.
func trappedIf(is bool) api.Halt {
	if is {
		return api.Trapped
	}
	return api.Going
}

// TestHandIsFull is P22.3: take and read, of every number that may be, beside every number that the hand may have; a hand that is too full comes ahead of an input that has too few.
func TestHandIsFull(t *testing.T) {
	p := api.Program{Memory: 64, Lines: list(line(0, 64, rising(101, 64)...))}
	for has := 1; has <= 64; has++ {
		for more := 1; more <= 64; more++ {
			want := trappedIf(has+more > 64)
			p := handed(p, has, take(0, more))
			cells := rising(0, more)
			if want == api.Trapped {
				cells = nil
			}
			halts(t, p, last(t, p, has, 2), 1, want, cells...)
			p.Ops[1] = read(0, more)
			halts(t, p, last(t, p, has+more, 2), 1, want)
			if want == api.Going {
				want = api.Starved
			}
			halts(t, p, last(t, p, has+more-1, 2), 1, want)
		}
	}
}

// TestTooFewInHand is P22.3: give and write of every number that may be, beside every number that the hand may have.
func TestTooFewInHand(t *testing.T) {
	p := api.Program{Memory: 70, Outs: 2, Lines: list(line(0, 1), line(3, 64))}
	for has := 1; has <= 64; has++ {
		for less := 1; less <= 64; less++ {
			want := trappedIf(less > has)
			p := handed(p, has, write(1, less))
			halts(t, p, last(t, p, has, 2), 1, want)
			p.Ops[1] = give(1, less)
			cells := rising(3, less)
			if want == api.Trapped {
				cells = nil
			}
			halts(t, p, last(t, p, has, 2), 1, want, cells...)
		}
	}
}

// TestLines is P22.3: what a line has, and has room for, wherever its first token lies.
func TestLines(t *testing.T) {
	for size := range 7 {
		for start := range size + 1 {
			for turned := range size + 1 {
				p := api.Program{Memory: 8, Ins: 1, Lines: list(line(1, size, rising(101, start)...))}
				ops := slices.Repeat(list(take(0, 1), give(0, 1)), turned)
				if start == 0 {
					ops = slices.Repeat(list(read(0, 1), give(0, 1), take(0, 1), give(0, 1), take(0, 1), write(0, 1)), turned)
					p.Outs = 1
				}
				for many := 1; many <= size+2; many++ {
					p.Ops = append(slices.Clone(ops), take(0, many), end())
					ringed(t, p, len(ops), size, start, turned, many)
				}
			}
		}
	}
}

// ringed fails, unless the last operation but one takes so many tokens of a line, behind so many that turned it, and the same are then given back, if they can be.
func ringed(t *testing.T, p api.Program, at, size, start, turned, many int) {
	t.Helper()
	if start == 0 {
		turned *= 2
	}
	var cells []int
	for i := range many {
		if many <= start {
			cells = append(cells, 1+(turned+i)%size)
		}
	}
	halts(t, p, last(t, p, 50, at+1), at, trappedIf(many > start), cells...)
	p.Ops = slices.Replace(slices.Clone(p.Ops), at, at+1, read(0, many), give(0, many))
	cells = nil
	for i := range many {
		if start+many <= size {
			cells = append(cells, 1+(turned+start+i)%size)
		}
	}
	halts(t, p, last(t, p, 50, at+2), at+1, trappedIf(start+many > size), cells...)
}

// TestTakenStays is P22.3: what is taken stays written, till something is laid over it.
func TestTakenStays(t *testing.T) {
	p := handed(api.Program{Memory: 4, Outs: 1, Lines: list(line(1, 3, 7, 8))}, 1, take(0, 2), write(0, 3), read(0, 2), give(0, 2), read(0, 1), give(0, 1), take(0, 1), write(0, 1))
	m, as := opened(t, p), modelOf(p)
	fedBoth(t, m, as, 0, 1, 2, 3, 4)
	for _, memory := range [][]int{{0, 7, 8, 0}, {0, 7, 8, 0}, {0, 7, 8, 0}, {0, 7, 8, 0}, {0, 3, 8, 2}, {0, 3, 8, 2}, {0, 3, 4, 2}, {0, 3, 4, 2}, {0, 3, 4, 2}, {0, 3, 4, 2}} {
		agrees(t, m, as)
		is(t, "memory", m.Memory(), memory...)
	}
	is(t, "output", m.Out(0), 1, 7, 8, 2)
	is(t, "counts", m.Count(), 2)
}

// TestLinesOverOneAnother is P22.3: a line's tokens are what its cells hold, whichever line laid it there.
func TestLinesOverOneAnother(t *testing.T) {
	p := handed(api.Program{Memory: 3, Outs: 1, Lines: list(line(0, 3, 7, 8, 9), line(1, 2))}, 1, give(1, 1), take(0, 3), write(0, 3), take(1, 1), write(0, 1))
	m, as := opened(t, p), modelOf(p)
	fedBoth(t, m, as, 0, 1)
	for range p.Ops {
		agrees(t, m, as)
	}
	is(t, "output", m.Out(0), 7, 1, 9, 1)
	is(t, "memory", m.Memory(), 7, 1, 9)
}

// TestCallDeals is P22.3: the hand is dealt to the in-ports by their order, and is then what the out-ports give by theirs; it has just as many tokens as the part takes.
func TestCallDeals(t *testing.T) {
	for _, c := range []struct {
		part  api.Part
		takes int
		gives []int
	}{
		{part(api.Weave, 2, 3), 6, list(1, 4, 2, 5, 3, 6)}, {part(api.Weave, 3, 2), 6, list(1, 3, 5, 2, 4, 6)},
		{part(api.Unweave, 2, 3), 6, list(1, 3, 5, 2, 4, 6)}, {part(api.Unweave, 3, 2), 6, list(1, 4, 2, 5, 3, 6)},
		{part(api.Weave, 1, 64), 64, rising(1, 64)}, {part(api.Unweave, 16, 4), 64, nil}, {part(api.Weave, 16, 4), 64, nil},
		{part(api.Add, 3), 3, list(6)}, {part(api.Quot), 2, list(0)}, {part(api.Copy, 4), 1, list(1, 1, 1, 1)}, {part(api.Filter, 9, 5), 1, list(9)},
		{part(api.Up, 4), 1, list(1, 0, 0, 0)}, {part(api.Up, 64), 1, nil}, {part(api.Down, 64), 64, list(1)}, {part(api.Down, 5), 5, list(1)},
		{part(api.Sum), 1, list(1)}, {part(api.Drop, 7), 7, []int{}}, {part(api.Drop, 64), 64, []int{}}, {part(api.Tick, 5, 6), 0, list(5)},
	} {
		some := api.Program{Outs: 1, Parts: list(part(api.Sum), c.part)}
		for has := range 65 {
			p := handed(some, has, call(1))
			at := min(1, has)
			event := last(t, p, has, at+1)
			halts(t, p, event, at, trappedIf(has != c.takes))
		}
		if c.gives == nil {
			continue
		}
		p := handed(some, c.takes, call(1))
		if len(c.gives) > 0 {
			p = handed(some, c.takes, call(1), write(0, len(c.gives)))
		}
		m := opened(t, p)
		feeds(t, m, 0, rising(1, c.takes)...)
		runs(t, m, 1, api.Done)
		is(t, told(p), m.Out(0), c.gives...)
		is(t, told(p), m.Fired(), 0, 1)
	}
}

// TestFailing is P22.3: a firing that fails leaves the hand and the part as they were, in front of operations that are done and behind such.
func TestFailing(t *testing.T) {
	p := api.Program{Ins: 2, Outs: 1, Parts: list(part(api.Sum), part(api.Filter, 1, 2), part(api.Quot)), Ops: list(read(0, 1), call(0), call(1), read(1, 1), call(2), write(0, 1), end())}
	for _, c := range []struct {
		over, under []int
		fired       []int
		at          int
		out         []int
	}{
		{list(greatest, 1), list(1, 1), list(1, 1, 1), 1, list(greatest)},
		{list(5, greatest-5), list(2, 1), list(2, 1, 1), 2, list(2)},
		{list(6, 1), list(3, 0), list(2, 2, 1), 4, list(2)},
		{list(least, 1), list(-1), list(1, 1, 0), 4, nil},
		{list(least), list(1), list(1, 1, 1), 0, list(least)},
	} {
		m, as := opened(t, p), modelOf(p)
		fedBoth(t, m, as, 0, c.over...)
		fedBoth(t, m, as, 1, c.under...)
		event := api.Event{}
		for event.Halt == api.Going || event.Halt == api.Done {
			event = agrees(t, m, as)
		}
		if event.Op != c.at || (event.Halt == api.Failed) != (c.at > 0) {
			t.Fatal(event)
		}
		is(t, "fired", m.Fired(), c.fired...)
		is(t, "output", m.Out(0), c.out...)
	}
}

// TestLoops is P22.3: a counter from its head on, round by round; loops within one another, and behind one another with one counter.
func TestLoops(t *testing.T) {
	p := api.Program{Counters: 2, Ops: list(head(1, 2), head(0, 3), back(0, 2), back(1, 1), head(1, 1), back(1, 5), end())}
	m, as := opened(t, p), modelOf(p)
	var places, first, second []int
	for range 2 {
		for halt := api.Going; halt != api.Done; {
			event := agrees(t, m, as)
			halt = event.Halt
			counters := m.Counters()
			places, first, second = append(places, event.Op), append(first, counters[0]), append(second, counters[1])
		}
	}
	is(t, "places", places, slices.Repeat(list(0, 1, 2, 2, 2, 3, 1, 2, 2, 2, 3, 4, 5, 6), 2)...)
	is(t, "counter 0", first, slices.Repeat(list(0, 3, 2, 1, 0, 0, 3, 2, 1, 0, 0, 0, 0, 0), 2)...)
	is(t, "counter 1", second, slices.Repeat(list(2, 2, 2, 2, 2, 1, 1, 1, 1, 1, 0, 1, 0, 0), 2)...)
}

// TestEnd is P22.3: an end with an empty hand, and with any other one.
func TestEnd(t *testing.T) {
	for has := range 65 {
		p := handed(api.Program{}, has)
		want := api.Trapped
		if has == 0 {
			want = api.Done
		}
		halts(t, p, last(t, p, has, len(p.Ops)), len(p.Ops)-1, want)
	}
}
