package svm_test

import (
	"reflect"
	"slices"
	"testing"

	"pianola/api"
	"pianola/svm"
)

// scrawl writes into a list and into all the room behind it.
func scrawl[T any](list []T, with T) {
	list = list[:cap(list)]
	for i := range list {
		list[i] = with
	}
}

// room is how much lies behind a roomy list.
const room = 3

// roomy is the same list with room behind it, in which this lies.
func roomy[T any](list []T, behind T) []T {
	return slices.Concat(list, slices.Repeat([]T{behind}, room))[:len(list)]
}

// longer is a copy of a roomy list and of what lies behind it.
func longer[T any](list []T) []T { return slices.Clone(list[:len(list)+room]) }

// withRoom is the same program with room behind all its lists; what lies there would make it another one, or a wrong one.
func withRoom(p api.Program) api.Program {
	p.Parts, p.Lines, p.Ops = roomy(p.Parts, api.Part{}), roomy(p.Lines, line(-1, 9)), roomy(p.Ops, end())
	for i := range p.Parts {
		p.Parts[i].Params = roomy(p.Parts[i].Params, 99)
	}
	for i := range p.Lines {
		p.Lines[i].Start = roomy(p.Lines[i].Start, 99)
	}
	return p
}

// full is a roomy program, all of it: copied, each list with what lies behind it.
func full(p api.Program) api.Program {
	all := api.Program{Memory: p.Memory, Counters: p.Counters, Ins: p.Ins, Outs: p.Outs, Parts: longer(p.Parts), Lines: longer(p.Lines), Ops: longer(p.Ops)}
	for i := range p.Parts {
		all.Parts[i].Params = longer(p.Parts[i].Params)
	}
	for i := range p.Lines {
		all.Lines[i].Start = longer(p.Lines[i].Start)
	}
	return all
}

// scrawlAll writes into all lists of a program.
func scrawlAll(p api.Program) {
	for _, some := range p.Parts {
		scrawl(some.Params, 77)
	}
	for _, l := range p.Lines {
		scrawl(l.Start, 77)
	}
	scrawl(p.Parts, api.Part{Tag: 77})
	scrawl(p.Lines, line(77, 77))
	scrawl(p.Ops, op(77, 77, 77))
}

// TestGivenIsLeft is R2: a program, what is fed, and the room behind all their lists, are neither written into nor kept, nor is what lies there read.
func TestGivenIsLeft(t *testing.T) {
	c := chance(231)
	for range 3000 {
		plain := c.program()
		p := withRoom(plain)
		was := full(p)
		m, as := opened(t, p), modelOf(plain)
		kept := c.below(2) == 0
		if !kept {
			scrawlAll(p)
		}
		for range 8 {
			in, tokens := c.below(plain.Ins), c.calm(c.below(20))
			given := roomy(tokens, 99)
			behind := longer(given)
			feeds(t, m, in, given...)
			as.feed(in, tokens...)
			is(t, "fed", longer(given), behind...)
			scrawl(given, 77)
			for range 6 {
				agrees(t, m, as)
			}
			is(t, "fed", given, slices.Repeat(list(77), len(given))...)
		}
		if kept && !reflect.DeepEqual(full(p), was) {
			t.Fatalf("%v is now %v", was, full(p))
		}
	}
}

// TestWrongIsLeft is R2: a program that is refused is left, too.
func TestWrongIsLeft(t *testing.T) {
	p := small()
	p.Ops[7].B = 3
	p = withRoom(p)
	was := full(p)
	refused(t, p, api.ErrLoops)
	if !reflect.DeepEqual(full(p), was) {
		t.Errorf("%v is now %v", was, full(p))
	}
}

// scrawlOut writes into all lists that a machine's calls answer.
func scrawlOut(p api.Program, m *svm.Machine) {
	for out := range p.Outs {
		scrawl(m.Out(out), 77)
	}
	for _, answer := range [][]int{m.Counters(), m.Count(), m.Memory(), m.Fired()} {
		scrawl(answer, 77)
	}
}

// TestNothingIsShared is R2: what a machine's calls answer shares no memory with it, nor with one another's answers.
func TestNothingIsShared(t *testing.T) {
	c := chance(232)
	for range 3000 {
		p := c.program()
		m, as := opened(t, p), modelOf(p)
		for in := range p.Ins {
			fedBoth(t, m, as, in, c.calm(100)...)
		}
		for range 40 {
			want := as.step()
			event, _ := m.Step()
			if !same(event, want) {
				t.Fatalf("%s: %v, not %v", told(p), event, want)
			}
			scrawl(event.Cells, 77)
			scrawlOut(p, m)
			stands(t, m, as)
		}
	}
}

// TestAnswersStay is R2: what was answered is not written into by what a machine does then.
func TestAnswersStay(t *testing.T) {
	m := opened(t, small())
	feeds(t, m, 0, 5, 9, 6, 8)
	runs(t, m, 1, api.Done)
	memory, counts, counters, fired, out := m.Memory(), m.Count(), m.Counters(), m.Fired(), m.Out(0)
	event := advance(t, m, api.OpGive)
	cells := slices.Clone(event.Cells)
	runs(t, m, 3, api.Done)
	is(t, "memory", memory, 7, 5, 0)
	is(t, "counts", counts, 1)
	is(t, "counters", counters, 0)
	is(t, "fired", fired, 1, 2)
	is(t, "output", out, 7, 12)
	is(t, "cells", event.Cells, cells...)
	is(t, "output", m.Out(0), 7, 12, 12, 21, 21, 27, 27, 35)
}

// TestMachinesAreApart is R2: machines of one program know nothing of one another.
func TestMachinesAreApart(t *testing.T) {
	c := chance(233)
	for range 1000 {
		p := c.program()
		ms := list(opened(t, p), opened(t, p), opened(t, p))
		as := list(modelOf(p), modelOf(p), modelOf(p))
		for range 60 {
			at := c.below(3)
			if c.below(5) == 0 {
				fedBoth(t, ms[at], as[at], c.below(p.Ins), c.calm(9)...)
			}
			agrees(t, ms[at], as[at])
		}
		for i := range ms {
			stands(t, ms[i], as[i])
		}
	}
}
