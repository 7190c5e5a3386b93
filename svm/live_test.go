package svm_test

import (
	"slices"
	"strconv"
	"testing"

	"pianola/actors"
	"pianola/api"
	"pianola/balance"
	"pianola/emit"
	"pianola/loops"
	"pianola/nest"
	"pianola/net"
	"pianola/pack"
	"pianola/simul"
	"pianola/source"
	"pianola/svm"
)

// live is a graph with a nest that brings it home, and the program of both.
type live struct {
	graph   api.Graph
	nest    []api.Loop
	program api.Program
}

// actor is one of few tokens a port.
func (c *chance) actor(name string) api.Actor {
	ports := 1 + c.below(3)
	p := pick(c,
		part(api.Filter, c.calm(1+c.below(3))...), part(api.Up, 1+c.below(3)), part(api.Down, 1+c.below(3)), part(api.Weave, ports, 1+c.below(2)),
		part(api.Unweave, ports, 1+c.below(2)), part(api.Add, ports), part(api.Add, 2), part(api.Quot), part(api.Sum), part(api.Copy, ports), part(api.Copy, 2),
		part(api.Tick, c.calm(2)...), part(api.Drop, 1+c.below(3)),
	)
	return api.Actor{Name: name, Tag: p.Tag, Params: p.Params}
}

// ports are all in-ports and all out-ports of actors.
func ports(all []api.Actor) (ins, outs []api.Port) {
	for i, a := range all {
		body, _ := actors.New(a.Tag, a.Params...)
		takes, gives := body.Shape()
		for port := range takes {
			ins = append(ins, api.Port{Actor: i, Port: port, Name: "x" + strconv.Itoa(len(ins))})
		}
		for port := range gives {
			outs = append(outs, api.Port{Actor: i, Port: port, Name: "y" + strconv.Itoa(len(outs))})
		}
	}
	return ins, outs
}

// joined is the graph with an edge between two ports, which nothing is on any more then.
func joined(g api.Graph, from, to int) api.Graph {
	out, in := g.Outs[from], g.Ins[to]
	g.Edges = append(slices.Clone(g.Edges), api.Edge{From: out.Actor, FromPort: out.Port, To: in.Actor, ToPort: in.Port})
	g.Outs = slices.Delete(slices.Clone(g.Outs), from, from+1)
	g.Ins = slices.Delete(slices.Clone(g.Ins), to, to+1)
	return g
}

// rates are a sound graph's net, and counts that balance, if they are not too great.
func rates(g api.Graph) (api.Net, []int, bool) {
	n, e := net.Of(g)
	if e != api.OK {
		return n, nil, false
	}
	b, _ := balance.Solve(n)
	all := 0
	for _, count := range b.Reps {
		all += count
	}
	return n, b.Reps, b.Verdict == api.Steady && all <= 300
}

// graph is one that balances, of up to so many actors.
func (c *chance) graph(many int) api.Graph {
	g := api.Graph{Name: "g"}
	for i := range many {
		with := append(slices.Clone(g.Actors), c.actor("a"+strconv.Itoa(i)))
		if ins, outs := ports(with); len(ins) <= 16 && len(outs) <= 16 {
			g.Actors, g.Ins, g.Outs = with, ins, outs
		}
	}
	for range 3 * many {
		if len(g.Ins) == 0 || len(g.Outs) == 0 {
			break
		}
		with := joined(g, c.below(len(g.Outs)), c.below(len(g.Ins)))
		if _, _, balances := rates(with); balances {
			g = with
		}
	}
	for i := range g.Edges {
		g.Edges[i].Start = c.calm(pick(c, 0, 0, 0, 1, c.below(7)))
	}
	return g
}

// period is a row of firings of a graph that brings it home: tokens are laid on the edges that would keep it from that.
func (c *chance) period(g *api.Graph) ([]int, bool) {
	prefer := rising(0, len(g.Actors))
	for i := range prefer {
		j := c.below(i + 1)
		prefer[i], prefer[j] = prefer[j], prefer[i]
	}
	for range 40 {
		n, reps, balances := rates(*g)
		if !balances {
			return nil, false
		}
		p, e := simul.Run(n, reps, prefer...)
		if e != api.OK {
			return nil, false
		}
		if len(p.Stuck) == 0 {
			return p.List, true
		}
		at := p.Stuck[c.below(len(p.Stuck))].Arc
		g.Edges[at].Start = append(g.Edges[at].Start, c.calm(1+c.below(4))...)
	}
	return nil, false
}

// nestOf is one of a list's firings: folded, or run by run, or firing by firing, once or a few times over.
func (c *chance) nestOf(of []int) []api.Loop {
	var all []api.Loop
	switch c.below(4) {
	case 0:
		for _, node := range of {
			all = append(all, api.Loop{Times: 1, Node: node})
		}
	case 1:
		for _, run := range nest.Runs(of...) {
			all = append(all, api.Loop{Times: run.Times, Node: run.Node})
		}
	default:
		all, _ = loops.Compress(of...)
	}
	if c.below(4) == 0 && len(all) > 0 {
		all = list(api.Loop{Times: 2 + c.below(2), Body: all})
	}
	return all
}

// plan is one that passes pack's Check: what Place answers, or with more room in between and around, or all regions apart.
func (c *chance) plan(n api.Net, of []int) (api.Plan, bool) {
	p, e := pack.Place(n, of...)
	if e != api.OK {
		return p, false
	}
	if c.below(2) == 0 {
		return p, true
	}
	spread := api.Plan{}
	for _, r := range p.Regions {
		r = api.Region{Base: spread.Total + c.below(3), Size: r.Size + c.below(4)}
		spread.Regions = append(spread.Regions, r)
		spread.Total = r.Base + r.Size
	}
	if c.below(2) == 0 {
		spread = api.Plan{Total: p.Total}
		more := c.below(40)
		for _, r := range p.Regions {
			spread.Regions = append(spread.Regions, api.Region{Base: r.Base + more, Size: r.Size})
		}
		if len(p.Regions) > 0 {
			spread.Total += more
		}
	}
	return spread, pack.Check(n, spread, of...) == api.OK
}

// live is a graph that a period brings home, and its program.
func (c *chance) live(many int) (live, bool) {
	g := c.graph(many)
	of, is := c.period(&g)
	if !is {
		return live{}, false
	}
	l := live{graph: g, nest: c.nestOf(of)}
	n, _ := net.Of(g)
	firings, e := nest.Expand(l.nest...)
	if e != api.OK {
		return live{}, false
	}
	plan, is := c.plan(n, firings)
	if !is {
		return live{}, false
	}
	l.program, e = emit.Make(g, plan, l.nest...)
	return l, e == api.OK
}

// overlap tells whether two regions share a cell.
func overlap(a, b api.Region) bool {
	return max(a.Base, b.Base) < min(a.Base+a.Size, b.Base+b.Size)
}

// watch goes along with a machine, and fails where P22.7 does not hold of it.
type watch struct {
	program api.Program
	heads   []int // of each counter what the last head of it says
}

func (w *watch) step(t *testing.T, m *svm.Machine) api.Event {
	t.Helper()
	event, _ := m.Step()
	what := told(w.program)
	if event.Halt == api.Trapped {
		t.Fatalf("%s: %v", what, event)
	}
	o := w.program.Ops[event.Op]
	if o.Kind == api.OpHead {
		w.heads[o.A] = o.B
	}
	for _, cell := range event.Cells {
		if r := w.program.Lines[event.Line].Region; cell < r.Base || cell >= r.Base+r.Size {
			t.Fatalf("%s: %v", what, event)
		}
	}
	for i, counter := range m.Counters() {
		if counter < 0 || counter > w.heads[i] {
			t.Fatalf("%s: counter %d is %d: %v", what, i, counter, event)
		}
	}
	w.apart(t, m.Count(), event)
	if len(m.Memory()) != w.program.Memory {
		t.Fatalf("%s: %v", what, m.Memory())
	}
	return event
}

// apart fails, if two lines have tokens whose regions share a cell; behind a period, unless each has as many as at the start.
func (w *watch) apart(t *testing.T, counts []int, event api.Event) {
	t.Helper()
	for i, a := range w.program.Lines {
		for j, b := range w.program.Lines[:i] {
			if counts[i] > 0 && counts[j] > 0 && overlap(a.Region, b.Region) {
				t.Fatalf("%s: lines %d and %d: %v", told(w.program), j, i, event)
			}
		}
		if event.Halt == api.Done && counts[i] != len(a.Start) {
			t.Fatalf("%s: line %d has %d: %v", told(w.program), i, counts[i], event)
		}
	}
}

// rows is a graph that runs firing by firing, with a row of tokens for each edge, as long as it may be.
type rows struct {
	graph    api.Graph
	bodies   []*actors.Body
	edges    [][]int
	ins, out [][]int
}

func rowsOf(g api.Graph, fed [][]int) *rows {
	r := &rows{graph: g, ins: slices.Clone(fed), out: make([][]int, len(g.Outs))}
	for _, a := range g.Actors {
		body, _ := actors.New(a.Tag, a.Params...)
		r.bodies = append(r.bodies, body)
	}
	for _, e := range g.Edges {
		r.edges = append(r.edges, slices.Clone(e.Start))
	}
	return r
}

// source is the row that an in-port takes from.
func (r *rows) source(actor, port int) *[]int {
	for i, e := range r.graph.Edges {
		if e.To == actor && e.ToPort == port {
			return &r.edges[i]
		}
	}
	return &r.ins[slices.IndexFunc(r.graph.Ins, func(p api.Port) bool { return p.Actor == actor && p.Port == port })]
}

// drain is the row that an out-port gives to.
func (r *rows) drain(actor, port int) *[]int {
	for i, e := range r.graph.Edges {
		if e.From == actor && e.FromPort == port {
			return &r.edges[i]
		}
	}
	return &r.out[slices.IndexFunc(r.graph.Outs, func(p api.Port) bool { return p.Actor == actor && p.Port == port })]
}

// fire is a firing, and why it can't be done.
func (r *rows) fire(actor int) api.Halt {
	takes, _ := r.bodies[actor].Shape()
	var ins [][]int
	for port, rate := range takes {
		from := r.source(actor, port)
		if len(*from) < rate {
			return api.Starved
		}
		ins = append(ins, first(from, rate))
	}
	outs, e := r.bodies[actor].Fire(ins...)
	if e != api.OK {
		return api.Failed
	}
	for port, tokens := range outs {
		to := r.drain(actor, port)
		*to = append(*to, tokens...)
	}
	return api.Going
}

// run is so many periods of a nest's firings, or those up to one that can't be done.
func (r *rows) run(periods int, of ...api.Loop) api.Halt {
	for range periods {
		for actor := range nest.All(of...) {
			if halt := r.fire(actor); halt != api.Going {
				return halt
			}
		}
	}
	return api.Done
}

// TestLive is P22.7 and P22.8: machines of graphs that are compiled, by nests and plans of many kinds, with enough tokens and with too few, with firings that fail.
func TestLive(t *testing.T) {
	c := chance(2278)
	met := map[api.Halt]int{}
	edges, shared := 0, 0
	for range 2500 {
		l, is := c.live(1 + c.below(8))
		if !is {
			continue
		}
		edges += len(l.graph.Edges)
		for i, a := range l.program.Lines {
			if slices.ContainsFunc(l.program.Lines[:i], func(b api.Line) bool { return overlap(a.Region, b.Region) }) {
				shared++
			}
		}
		met[lives(t, &c, l)]++
	}
	if met[api.Done] < 300 || met[api.Starved] < 300 || met[api.Failed] < 50 || edges < 2000 || shared < 300 {
		t.Error("too few of a kind", met, edges, shared)
	}
}

// lives fails, unless P22.7 and P22.8 hold of a live graph's machine, fed at the start; its halt behind a few periods is told.
func lives(t *testing.T, c *chance, l live) api.Halt {
	t.Helper()
	m := opened(t, l.program)
	fed := make([][]int, len(l.graph.Ins))
	for in := range fed {
		fed[in] = c.calm(pick(c, 2000, 2000, c.below(8)))
		feeds(t, m, in, fed[in]...)
	}
	w := &watch{l.program, make([]int, l.program.Counters)}
	periods := 1 + c.below(3)
	halt := api.Done
	for m.Periods() < periods && (halt == api.Done || halt == api.Going) {
		halt = w.step(t, m).Halt
	}
	like := rowsOf(l.graph, fed)
	if want := like.run(periods, l.nest...); want != halt {
		t.Fatalf("%s: %d, not %d", told(l.program), halt, want)
	}
	for out, tokens := range like.out {
		is(t, told(l.program), m.Out(out), tokens...)
	}
	for i, body := range like.bodies {
		is(t, told(l.program), list(m.Fired()[i]), body.Fired())
	}
	return halt
}

// TestTexts is P22.7 and P22.8: the document's whole examples that are compiled, by the layers below.
func TestTexts(t *testing.T) {
	for _, c := range []struct {
		text    string
		feeds   [][]int
		periods int
		halt    api.Halt
		out     []int
	}{
		{"graph g { actor a = up 2; actor b = down 3; edge a.0 -> b.0; in x -> a.0; out b.0 -> y; }", list(list(7, 8, 9)), 1, api.Done, list(7, 0)},
		{"graph h { actor a = tick 1 1; actor b = drop 2; edge a.0 -> b.0; }", nil, 2, api.Done, nil},
		{"graph n { actor a = up 4; actor b = down 2; actor c = sum; edge a.0 -> b.0; edge b.0 -> c.0; in x -> a.0; out c.0 -> y; }", list(list(5, 6)), 2, api.Done, list(5, 5, 11, 11)},
		{"graph acc { actor a = add 2; actor c = copy 2; edge a.0 -> c.0; edge c.0 -> a.0 with 10; in x -> a.1; out c.1 -> y; }", list(list(1, 2, 3)), 3, api.Done, list(11, 13, 16)},
		{"graph acc { actor a = add 2; actor c = copy 2; edge a.0 -> c.0; edge c.0 -> a.0 with 10; in x -> a.1; out c.1 -> y; }", list(list(1, 2, 3)), 4, api.Starved, list(11, 13, 16)},
		{"graph q { actor a = quot; in n -> a.0; in d -> a.1; out a.0 -> y; }", list(list(-7, 9, 1), list(2, 0, 5)), 1, api.Done, list(-3)},
		{"graph q { actor a = quot; in n -> a.0; in d -> a.1; out a.0 -> y; }", list(list(-7, 9, 1), list(2, 0, 5)), 3, api.Failed, list(-3)},
		{"graph g { actor a = sum; in x -> a.0; out a.0 -> y; }", list(list(5)), 1, api.Done, list(5)},
	} {
		g, err := source.Parse(c.text)
		if err != nil {
			t.Fatal(c.text, err)
		}
		n, reps, _ := rates(g)
		period, _ := simul.Run(n, reps)
		plan, _ := pack.Place(n, period.List...)
		folded, _ := loops.Compress(period.List...)
		p, e := emit.Make(g, plan, folded...)
		if e != api.OK {
			t.Fatal(c.text, e)
		}
		m := opened(t, p)
		for in, tokens := range c.feeds {
			feeds(t, m, in, tokens...)
		}
		runs(t, m, c.periods, c.halt)
		is(t, c.text, m.Out(0), c.out...)
	}
}
