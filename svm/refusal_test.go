package svm_test

import (
	"slices"
	"testing"

	"pianola/api"
	"pianola/code"
	"pianola/svm"
)

// refused fails, unless a program has no machine, for this reason, which is code's, too.
func refused(t *testing.T, p api.Program, why api.Errno) {
	t.Helper()
	if m, e := svm.New(p); m != nil || e != why || code.Check(p) != why {
		t.Fatalf("%s: %v %v, not %v", told(p), m, e, why)
	}
}

// TestRefused is P22.1: code's error of a program that is not sound.
func TestRefused(t *testing.T) {
	refused(t, api.Program{}, api.ErrOp)
	refused(t, api.Program{Ops: list(back(0, 0))}, api.ErrOp)
	refused(t, api.Program{Counters: 1, Ops: list(back(0, 0))}, api.ErrLoops)
	for _, c := range []struct {
		why  api.Errno
		turn func(p *api.Program)
	}{
		{api.ErrArg, func(p *api.Program) { p.Memory = -1 }}, {api.ErrArg, func(p *api.Program) { p.Memory = 1025 }},
		{api.ErrArg, func(p *api.Program) { p.Counters = 18 }}, {api.ErrArg, func(p *api.Program) { p.Ins = least }}, {api.ErrArg, func(p *api.Program) { p.Outs = greatest }},
		{api.ErrMany, func(p *api.Program) { p.Parts = make([]api.Part, 33) }}, {api.ErrMany, func(p *api.Program) { p.Lines = make([]api.Line, 97) }},
		{api.ErrMany, func(p *api.Program) { p.Ops = make([]api.Op, 131073) }},
		{api.ErrTag, func(p *api.Program) { p.Parts[1].Tag = 0 }}, {api.ErrTag, func(p *api.Program) { p.Parts[0].Tag = 12 }},
		{api.ErrParams, func(p *api.Program) { p.Parts[0].Params = nil }}, {api.ErrParams, func(p *api.Program) { p.Parts[1].Params = list(1) }},
		{api.ErrSize, func(p *api.Program) { p.Lines[0].Region.Base = 1 }}, {api.ErrSize, func(p *api.Program) { p.Lines[0].Region.Size = -1 }},
		{api.ErrStart, func(p *api.Program) { p.Lines[0].Region.Size = 0 }},
		{api.ErrOp, func(p *api.Program) { p.Ops[0].B = 0 }}, {api.ErrOp, func(p *api.Program) { p.Ops[2].A = 1 }}, {api.ErrOp, func(p *api.Program) { p.Ops[1].Kind = 8 }},
		{api.ErrOp, func(p *api.Program) { p.Ops = p.Ops[:8] }}, {api.ErrOp, func(p *api.Program) { p.Ops = append(p.Ops, end()) }},
		{api.ErrLoops, func(p *api.Program) { p.Ops[7].B = 3 }}, {api.ErrLoops, func(p *api.Program) { p.Ops = slices.Delete(p.Ops, 7, 8) }},
		{api.ErrTooBig, func(p *api.Program) {
			p.Counters, p.Ops = 2, list(head(0, 2048), head(1, 32), call(0), back(1, 2), back(0, 1), end())
		}},
	} {
		p := small()
		c.turn(&p)
		refused(t, p, c.why)
	}
}

// nothing fails, unless all calls of what is no machine answer that there is none.
func nothing(t *testing.T, m *svm.Machine) {
	t.Helper()
	for _, n := range []int{least, -1, 0, 1, 8, 9, greatest} {
		if e := m.Feed(n, 1, 2); e != api.ErrNil {
			t.Error("feed", n, e)
		}
		if halt, e := m.Run(n); halt != api.Going || e != api.ErrNil {
			t.Error("run", n, halt, e)
		}
		is(t, "output", m.Out(n))
	}
	if event, e := m.Step(); !same(event, api.Event{}) || e != api.ErrNil {
		t.Error("step", event, e)
	}
	is(t, "all", slices.Concat(m.Counters(), m.Count(), m.Memory(), m.Fired(), list(m.Periods())), 0)
}

// TestNil is P22.2 to P22.5, and R2: a nil machine, and, taken likewise, one that New did not make.
func TestNil(t *testing.T) {
	nothing(t, nil)
	nothing(t, new(svm.Machine))
}
