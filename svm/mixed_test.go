package svm_test

import (
	"slices"
	"testing"

	"pianola/api"
	"pianola/code"
)

// met counts how often an operation of a kind came to a halt.
type met map[[2]int]int

func (m met) note(event api.Event) { m[[2]int{int(event.Kind), int(event.Halt)}]++ }

// enough fails, unless each operation came often to each halt that the table has for it, and never to another one.
func (m met) enough(t *testing.T, often int) {
	t.Helper()
	all := map[api.OpKind][]api.Halt{
		api.OpTake: {api.Going, api.Trapped}, api.OpRead: {api.Going, api.Trapped, api.Starved}, api.OpCall: {api.Going, api.Trapped, api.Failed},
		api.OpGive: {api.Going, api.Trapped}, api.OpWrite: {api.Going, api.Trapped}, api.OpHead: {api.Going}, api.OpBack: {api.Going}, api.OpEnd: {api.Done, api.Trapped},
	}
	pairs := 0
	for kind, halts := range all {
		for _, halt := range halts {
			pairs++
			if n := m[[2]int{int(kind), int(halt)}]; n < often {
				t.Errorf("kind %d, halt %d: %d only", kind, halt, n)
			}
		}
	}
	if len(m) != pairs {
		t.Error(m)
	}
}

// TestMixed is P22.1 to P22.5: many programs, stepped and run and fed in between, against the model.
func TestMixed(t *testing.T) {
	c := chance(221)
	seen := met{}
	for range 10000 {
		p := c.program()
		if e := code.Check(p); e != api.OK {
			t.Fatal(told(p), e)
		}
		m, as := opened(t, p), modelOf(p)
		stands(t, m, as)
		for range 5 + c.below(60) {
			switch c.below(9) {
			case 0:
				fedBoth(t, m, as, c.below(p.Ins), c.tokens(c.below(5))...)
			case 1:
				fedBoth(t, m, as, c.below(p.Ins), c.calm(c.below(40))...)
			case 2:
				if c.below(4) == 0 {
					periods := c.below(9)
					runs(t, m, periods, as.run(periods))
					stands(t, m, as)
				}
			default:
				seen.note(agrees(t, m, as))
			}
		}
	}
	seen.enough(t, 100)
}

// everyRow goes through all rows of up to so many of these.
func everyRow(most int, of []api.Op, each func(ops []api.Op)) {
	var from func(row []api.Op)
	from = func(row []api.Op) {
		each(row)
		for i := 0; i < len(of) && len(row) < most; i++ {
			from(append(slices.Clone(row), of[i]))
		}
	}
	from(nil)
}

// looped are the same operations, those from a place up to another one in a loop.
func looped(ops []api.Op, from, to, times int) []api.Op {
	return slices.Concat(ops[:from], list(head(0, times)), ops[from:to], list(back(0, from+1)), ops[to:])
}

// TestEveryShortProgram is P22.3: all rows of up to three operations out of some, with a loop around any piece of them or without one, for a few periods, against the model.
func TestEveryShortProgram(t *testing.T) {
	some := list(take(0, 1), take(0, 2), take(1, 1), read(0, 1), read(0, 2), read(0, 63), call(0), call(1), call(2), call(3), give(0, 1), give(0, 2), give(1, 1), write(0, 1), write(0, 2))
	p := api.Program{
		Memory: 3, Counters: 1, Ins: 1, Outs: 1, Lines: list(line(0, 2, 4), line(1, 2, 0)),
		Parts: list(part(api.Sum), part(api.Copy, 2), part(api.Quot), part(api.Tick, greatest-2, 1)),
	}
	seen := met{}
	goes := func(ops []api.Op) {
		p.Ops = append(slices.Clone(ops), end())
		m, as := opened(t, p), modelOf(p)
		fedBoth(t, m, as, 0, 0, 7, 1)
		for range 24 {
			event := agrees(t, m, as)
			seen.note(event)
			if event.Halt == api.Failed || event.Halt == api.Trapped {
				break
			}
			if event.Halt == api.Starved {
				fedBoth(t, m, as, 0, rising(5, 32)...)
			}
		}
	}
	everyRow(3, some, func(ops []api.Op) {
		goes(ops)
		for to := range len(ops) + 1 {
			for from := range to + 1 {
				goes(looped(ops, from, to, 2))
			}
		}
	})
	seen.enough(t, 20)
}
