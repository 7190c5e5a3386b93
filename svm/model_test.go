package svm_test

import (
	"slices"
	"strconv"
	"strings"
	"testing"

	"pianola/actors"
	"pianola/api"
	"pianola/code"
	"pianola/svm"
)

const (
	least    = -9223372036854775808
	greatest = 9223372036854775807
)

func list[T any](of ...T) []T { return of }

func part(tag api.Tag, params ...int) api.Part { return api.Part{Tag: tag, Params: params} }

func line(base, size int, start ...int) api.Line {
	return api.Line{Region: api.Region{Base: base, Size: size}, Start: start}
}

func op(kind api.OpKind, a, b int) api.Op { return api.Op{Kind: kind, A: a, B: b} }

func end() api.Op           { return api.Op{} }
func take(a, b int) api.Op  { return op(api.OpTake, a, b) }
func read(a, b int) api.Op  { return op(api.OpRead, a, b) }
func call(a int) api.Op     { return op(api.OpCall, a, 0) }
func give(a, b int) api.Op  { return op(api.OpGive, a, b) }
func write(a, b int) api.Op { return op(api.OpWrite, a, b) }
func head(a, b int) api.Op  { return op(api.OpHead, a, b) }
func back(a, to int) api.Op { return op(api.OpBack, a, to) }

// rising are so many numbers from one on.
func rising(from, many int) []int {
	var all []int
	for i := range many {
		all = append(all, from+i)
	}
	return all
}

// small is the program of the chapter's examples.
func small() api.Program {
	return api.Program{
		Memory: 3, Counters: 1, Ins: 1, Outs: 1,
		Parts: list(part(api.Up, 2), part(api.Sum)),
		Lines: list(line(0, 3, 7)),
		Ops:   list(read(0, 1), call(0), give(0, 2), head(0, 2), take(0, 1), call(1), write(0, 1), back(0, 4), end()),
	}
}

// model is a machine that is reckoned otherwise: of each line it keeps the cells of its region in a row, which begins with the one of the first token, and as many tokens.
type model struct {
	p            api.Program
	cells        []int
	turned       [][]int
	count        []int
	hand         []int
	counters     []int
	unread, told [][]int
	bodies       []*actors.Body
	next, ended  int
}

func modelOf(p api.Program) *model {
	m := &model{
		p: p, cells: make([]int, p.Memory), counters: make([]int, p.Counters),
		unread: make([][]int, p.Ins), told: make([][]int, p.Outs),
	}
	for _, l := range p.Lines {
		own := rising(l.Region.Base, l.Region.Size)
		for i, token := range l.Start {
			m.cells[own[i]] = token
		}
		m.turned, m.count = append(m.turned, own), append(m.count, len(l.Start))
	}
	for _, some := range p.Parts {
		body, _ := actors.New(some.Tag, some.Params...)
		m.bodies = append(m.bodies, body)
	}
	return m
}

func (m *model) feed(in int, tokens ...int) {
	m.unread[in] = slices.Concat(m.unread[in], tokens)
}

// needed is how many tokens a part takes in a firing.
func (m *model) needed(body int) int {
	takes, _ := m.bodies[body].Shape()
	all := 0
	for _, rate := range takes {
		all += rate
	}
	return all
}

// trapped is the table's column of that word.
func (m *model) trapped(o api.Op) bool {
	full := len(m.hand) > 64-o.B
	switch o.Kind {
	case api.OpTake:
		return m.count[o.A] < o.B || full
	case api.OpRead:
		return full
	case api.OpCall:
		return len(m.hand) != m.needed(o.A)
	case api.OpGive:
		return len(m.hand) < o.B || m.count[o.A]+o.B > len(m.turned[o.A])
	case api.OpWrite:
		return len(m.hand) < o.B
	case api.OpEnd:
		return len(m.hand) > 0
	}
	return false
}

// fires is a call, of which the hand has what the part takes.
func (m *model) fires(body int) bool {
	takes, _ := m.bodies[body].Shape()
	var ins [][]int
	at := 0
	for _, rate := range takes {
		ins = append(ins, slices.Clone(m.hand[at:at+rate]))
		at += rate
	}
	outs, e := m.bodies[body].Fire(ins...)
	if e == api.OK {
		m.hand = nil
		for _, out := range outs {
			m.hand = append(m.hand, out...)
		}
	}
	return e == api.OK
}

// first are so many tokens of a list, and the others.
func first(list *[]int, many int) []int {
	some := slices.Clone((*list)[:many])
	*list = slices.Clone((*list)[many:])
	return some
}

// does is an operation that is done, but for a call and an end: the cells that it touches, and the operation behind it.
func (m *model) does(at int, o api.Op) ([]int, int) {
	switch o.Kind {
	case api.OpTake:
		own := m.turned[o.A]
		cells := slices.Clone(own[:o.B])
		for _, cell := range cells {
			m.hand = append(m.hand, m.cells[cell])
		}
		m.turned[o.A], m.count[o.A] = slices.Concat(own[o.B:], cells), m.count[o.A]-o.B
		return cells, at + 1
	case api.OpGive:
		cells := slices.Clone(m.turned[o.A][m.count[o.A] : m.count[o.A]+o.B])
		for i, token := range first(&m.hand, o.B) {
			m.cells[cells[i]] = token
		}
		m.count[o.A] += o.B
		return cells, at + 1
	case api.OpRead:
		m.hand = append(m.hand, first(&m.unread[o.A], o.B)...)
	case api.OpWrite:
		m.told[o.A] = append(m.told[o.A], first(&m.hand, o.B)...)
	case api.OpHead:
		m.counters[o.A] = o.B
	case api.OpBack:
		if m.counters[o.A]--; m.counters[o.A] > 0 {
			return nil, o.B
		}
	}
	return nil, at + 1
}

func (m *model) step() api.Event {
	at := m.next
	o := m.p.Ops[at]
	event := api.Event{Op: at, Kind: o.Kind, Line: -1}
	if o.Kind == api.OpTake || o.Kind == api.OpGive {
		event.Line = o.A
	}
	switch {
	case m.trapped(o):
		event.Halt = api.Trapped
	case o.Kind == api.OpRead && len(m.unread[o.A]) < o.B:
		event.Halt = api.Starved
	case o.Kind == api.OpCall && !m.fires(o.A):
		event.Halt = api.Failed
	case o.Kind == api.OpEnd:
		event.Halt = api.Done
		m.ended++
		m.next = 0
	default:
		event.Cells, m.next = m.does(at, o)
	}
	return event
}

// run is a machine's Run, of a number of periods that may be.
func (m *model) run(periods int) api.Halt {
	for ; periods > 0; periods-- {
		halt := api.Going
		for halt == api.Going {
			halt = m.step().Halt
		}
		if halt != api.Done {
			return halt
		}
	}
	return api.Done
}

func (m *model) fired() []int {
	var all []int
	for _, body := range m.bodies {
		all = append(all, body.Fired())
	}
	return all
}

// opened is a new machine of a sound program.
func opened(t *testing.T, p api.Program) *svm.Machine {
	t.Helper()
	m, e := svm.New(p)
	if m == nil || e != api.OK {
		t.Fatalf("%s: %v", told(p), e)
	}
	return m
}

// told is a program as text.
func told(p api.Program) string {
	var words []string
	for _, o := range p.Ops[:min(60, len(p.Ops))] {
		word, _ := code.Show(o)
		words = append(words, word)
	}
	text := "memory " + strconv.Itoa(p.Memory) + ", " + strconv.Itoa(len(p.Parts)) + " parts, lines"
	for _, l := range p.Lines {
		text += " " + strconv.Itoa(l.Region.Base) + " of " + strconv.Itoa(l.Region.Size) + " with " + strconv.Itoa(len(l.Start))
	}
	return text + ": " + strings.Join(words, ", ")
}

// is fails, unless two lists are the same.
func is(t *testing.T, what string, got []int, want ...int) {
	t.Helper()
	if !slices.Equal(got, want) {
		t.Fatalf("%s: %v, not %v", what, got, want)
	}
}

func same(a, b api.Event) bool {
	cells := slices.Equal(a.Cells, b.Cells)
	a.Cells, b.Cells = nil, nil
	return cells && a.Op == b.Op && a.Kind == b.Kind && a.Line == b.Line && a.Halt == b.Halt
}

// steps fails, unless the next step's event is this one.
func steps(t *testing.T, m *svm.Machine, want api.Event) {
	t.Helper()
	if event, e := m.Step(); e != api.OK || !same(event, want) {
		t.Fatalf("step %v %v, not %v", event, e, want)
	}
}

// feeds fails, unless tokens are laid behind an input's.
func feeds(t *testing.T, m *svm.Machine, in int, tokens ...int) {
	t.Helper()
	if e := m.Feed(in, tokens...); e != api.OK {
		t.Fatal(in, tokens, e)
	}
}

// runs fails, unless a machine that goes on for so many periods halts so.
func runs(t *testing.T, m *svm.Machine, periods int, want api.Halt) {
	t.Helper()
	if halt, e := m.Run(periods); halt != want || e != api.OK {
		t.Fatalf("run %d: %d %v, not %d", periods, halt, e, want)
	}
}

// stands fails, unless a machine is as the model is, in all that its calls tell.
func stands(t *testing.T, m *svm.Machine, as *model) {
	t.Helper()
	what := told(as.p)
	is(t, what+": memory", m.Memory(), as.cells...)
	is(t, what+": counts", m.Count(), as.count...)
	is(t, what+": counters", m.Counters(), as.counters...)
	is(t, what+": fired", m.Fired(), as.fired()...)
	for out, tokens := range as.told {
		is(t, what+": output "+strconv.Itoa(out), m.Out(out), tokens...)
	}
	if m.Periods() != as.ended {
		t.Fatalf("%s: %d periods, not %d", what, m.Periods(), as.ended)
	}
}

// agrees fails, unless a machine's next event is the model's, which is told, and then both are the same.
func agrees(t *testing.T, m *svm.Machine, as *model) api.Event {
	t.Helper()
	want := as.step()
	if event, e := m.Step(); e != api.OK || !same(event, want) {
		t.Fatalf("%s: step %v %v, not %v", told(as.p), event, e, want)
	}
	stands(t, m, as)
	return want
}

// fedBoth lays tokens behind an input's, of a machine and of the model.
func fedBoth(t *testing.T, m *svm.Machine, as *model, in int, tokens ...int) {
	t.Helper()
	feeds(t, m, in, tokens...)
	as.feed(in, tokens...)
}
