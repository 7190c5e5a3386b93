package svm_test

import (
	"slices"
	"testing"

	"pianola/api"
	"pianola/code"
	"pianola/svm"
)

// alike fails, unless two machines of a program are the same, in all that their calls tell.
func alike(t *testing.T, p api.Program, m, n *svm.Machine) {
	t.Helper()
	what := told(p)
	is(t, what+": memory", m.Memory(), n.Memory()...)
	is(t, what+": counts", m.Count(), n.Count()...)
	is(t, what+": counters", m.Counters(), n.Counters()...)
	is(t, what+": fired", m.Fired(), n.Fired()...)
	is(t, what+": periods", list(m.Periods()), n.Periods())
	for out := range p.Outs {
		is(t, what+": output", m.Out(out), n.Out(out)...)
	}
}

// stepped is a Run that is done step by step.
func stepped(m *svm.Machine, periods int) api.Halt {
	for periods > 0 {
		event, _ := m.Step()
		switch event.Halt {
		case api.Done:
			periods--
		case api.Starved, api.Failed, api.Trapped:
			return event.Halt
		}
	}
	return api.Done
}

// TestRunIsSteps is P22.6: of many programs, fed here and there.
func TestRunIsSteps(t *testing.T) {
	c := chance(226)
	met := map[api.Halt]int{}
	for range 6000 {
		p := c.program()
		m, n := opened(t, p), opened(t, p)
		for range 5 {
			in, tokens, periods := c.below(p.Ins), c.calm(c.below(60)), c.below(9)
			feeds(t, m, in, tokens...)
			feeds(t, n, in, tokens...)
			halt := stepped(n, periods)
			runs(t, m, periods, halt)
			alike(t, p, m, n)
			met[halt]++
		}
	}
	if met[api.Done] < 1000 || met[api.Starved] < 1000 || met[api.Failed] < 100 || met[api.Trapped] < 1000 {
		t.Error("too few of a kind", met)
	}
}

// ended tells whether a machine's next period ends; it fails, unless that is so behind just so many operations, and leaves all counters 0.
func ended(t *testing.T, p api.Program, m *svm.Machine, many int) bool {
	t.Helper()
	for done := 1; ; done++ {
		event, _ := m.Step()
		switch {
		case event.Halt == api.Done && done == many:
			is(t, told(p), m.Counters(), make([]int, p.Counters)...)
			return true
		case event.Halt > api.Done:
			return false
		case event.Halt == api.Done || done == many:
			t.Fatalf("%s: %d done of %d: %v", told(p), done, many, event)
		}
	}
}

// TestPeriodIsItsSteps is P22.6: a period that is not halted does as many operations as code.Steps tells, and leaves all counters 0.
func TestPeriodIsItsSteps(t *testing.T) {
	c := chance(227)
	periods := 0
	for range 6000 {
		p := c.program()
		many, _ := code.Steps(p)
		m := opened(t, p)
		for in := range p.Ins {
			feeds(t, m, in, c.calm(200)...)
		}
		for m.Periods() < 3 && ended(t, p, m, many) {
			periods++
		}
	}
	if periods < 1500 {
		t.Error("too few periods:", periods)
	}
}

// TestFeedingPieceByPiece is P22.6: it does not matter how tokens are fed, as long as they are there when they are read.
func TestFeedingPieceByPiece(t *testing.T) {
	c := chance(228)
	starved := 0
	for range 6000 {
		p := c.program()
		fed := make([][]int, p.Ins)
		m, n := opened(t, p), opened(t, p)
		for in := range p.Ins {
			fed[in] = c.calm(c.below(120))
			feeds(t, m, in, fed[in]...)
		}
		halt := stepped(m, 4)
		pieces := make([][][]int, p.Ins)
		for in := range p.Ins {
			pieces[in] = c.pieces(fed[in])
		}
		other := stepped(n, 4)
		for other == api.Starved && slices.ContainsFunc(pieces, func(some [][]int) bool { return len(some) > 0 }) {
			starved++
			if in := c.below(p.Ins); len(pieces[in]) > 0 {
				feeds(t, n, in, pieces[in][0]...)
				pieces[in] = pieces[in][1:]
			}
			other, _ = n.Run(4 - n.Periods())
		}
		if halt != other {
			t.Fatalf("%s: %d, and %d", told(p), halt, other)
		}
		alike(t, p, m, n)
	}
	if starved < 10000 {
		t.Error("hardly ever starved:", starved)
	}
}
