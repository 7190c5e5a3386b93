package svm

import (
	"slices"

	"pianola/api"
)

// deed is how the operations of a kind are done.
type deed struct {
	onLine bool // whether it is on a line, which A names
	// does the operation and tells the cells that it touched, or, with nothing changed, why it can't be done.
	does func(*Machine, api.Op) ([]int, api.Halt)
}

// deeds are those of the kinds.
func deeds() [8]deed {
	return [...]deed{
		api.OpEnd:   {does: (*Machine).end},
		api.OpHead:  {does: (*Machine).head},
		api.OpBack:  {does: (*Machine).back},
		api.OpTake:  {does: (*Machine).take, onLine: true},
		api.OpRead:  {does: (*Machine).read},
		api.OpCall:  {does: (*Machine).call},
		api.OpGive:  {does: (*Machine).give, onLine: true},
		api.OpWrite: {does: (*Machine).write},
	}
}

// do does the next operation, if it can be. One that is Failed or Trapped is so again, whenever it is tried: it has changed nothing, and what is fed changes nothing that it hangs on. So a machine stands without noting it.
func (m *Machine) do() api.Event {
	at := m.next
	op := m.ops[at]
	deed := deeds()[op.Kind]
	event := api.Event{Op: at, Kind: op.Kind, Line: -1}
	if deed.onLine {
		event.Line = op.A
	}
	m.next = at + 1 // if the deed leads nowhere else
	event.Cells, event.Halt = deed.does(m, op)
	if event.Halt != api.Going && event.Halt != api.Done {
		m.next = at
	}
	return event
}

func (m *Machine) end(api.Op) ([]int, api.Halt) {
	if m.has(1) {
		return nil, api.Trapped
	}
	m.periods++
	m.next = 0
	return nil, api.Done
}

func (m *Machine) head(op api.Op) ([]int, api.Halt) {
	m.counters[op.A] = op.B
	return nil, api.Going
}

func (m *Machine) back(op api.Op) ([]int, api.Halt) {
	m.counters[op.A]--
	if m.counters[op.A] > 0 {
		m.next = op.B
	}
	return nil, api.Going
}

func (m *Machine) take(op api.Op) ([]int, api.Halt) {
	if m.rings[op.A].count < op.B || !m.holds(op.B) {
		return nil, api.Trapped
	}
	tokens, cells := m.lift(op.A, op.B)
	m.grasp(tokens)
	return cells, api.Going
}

func (m *Machine) read(op api.Op) ([]int, api.Halt) {
	if !m.holds(op.B) {
		return nil, api.Trapped
	}
	if len(m.fed[op.A]) < op.B {
		return nil, api.Starved
	}
	m.grasp(m.draw(op.A, op.B))
	return nil, api.Going
}

func (m *Machine) call(op api.Op) ([]int, api.Halt) {
	body := m.parts[op.A]
	takes, _ := body.Shape()
	all := 0
	for _, rate := range takes {
		all += rate
	}
	if len(m.tokens) != all {
		return nil, api.Trapped
	}
	gives, e := body.Fire(m.dealt(takes)...)
	if e != api.OK {
		return nil, api.Failed
	}
	m.tokens = slices.Concat(gives...)
	return nil, api.Going
}

func (m *Machine) give(op api.Op) ([]int, api.Halt) {
	if !m.has(op.B) || m.rings[op.A].room() < op.B {
		return nil, api.Trapped
	}
	return m.lay(op.A, m.pass(op.B)), api.Going
}

func (m *Machine) write(op api.Op) ([]int, api.Halt) {
	if !m.has(op.B) {
		return nil, api.Trapped
	}
	m.tell(op.A, m.pass(op.B))
	return nil, api.Going
}
