package emit_test

import (
	"slices"
	"testing"

	"pianola/api"
	"pianola/balance"
	"pianola/code"
	"pianola/loops"
	"pianola/nest"
	"pianola/net"
	"pianola/pack"
	"pianola/simul"
)

// done are the operations that a period of a sound program does, one by one.
func done(p api.Program) []api.Op {
	counters := make([]int, p.Counters)
	var all []api.Op
	for at := 0; ; at++ {
		op := p.Ops[at]
		all = append(all, op)
		switch op.Kind {
		case api.OpEnd:
			return all
		case api.OpHead:
			counters[op.A] = op.B
		case api.OpBack:
			counters[op.A]--
			if counters[op.A] > 0 {
				at = op.B - 1
			}
		}
	}
}

func count(ops []api.Op, kind api.OpKind) int {
	return len(slices.DeleteFunc(slices.Clone(ops), func(op api.Op) bool { return op.Kind != kind }))
}

// headSteps are 1, and its Times, for each time that a head of a nest is met.
func headSteps(of []api.Loop) int {
	steps := 0
	for _, loop := range of {
		if loop.Times > 1 {
			steps += 1 + loop.Times
		}
		steps += loop.Times * headSteps(loop.Body)
	}
	return steps
}

// follows fails, unless P21.2 holds of the program that Make answers.
func follows(t *testing.T, g api.Graph, plan api.Plan, of []api.Loop) api.Program {
	t.Helper()
	p := made(t, g, plan, of...)
	if e := code.Check(p); e != api.OK {
		t.Fatalf("%s: %v: %s", toldNest(of), e, told(p))
	}
	size, _ := nest.Measure(of...)
	if count(p.Ops, api.OpCall) != size.Firings || count(p.Ops, api.OpHead) != size.Heads {
		t.Fatalf("%s: %v: %s", toldNest(of), size, told(p))
	}
	firings, _ := nest.Expand(of...)
	steps := 1 + headSteps(of)
	var plain []api.Op
	for _, actor := range firings {
		takes, gives := ratesOf(g.Actors[actor])
		steps += 1 + len(takes) + len(gives)
		plain = append(plain, firingOf(g, actor)...)
	}
	if is, e := code.Steps(p); is != steps || e != api.OK {
		t.Fatalf("%s: %d steps, %v, not %d: %s", toldNest(of), is, e, steps, told(p))
	}
	all := done(p)
	if len(all) != steps {
		t.Fatalf("%s: %d are done, not %d: %s", toldNest(of), len(all), steps, told(p))
	}
	all = slices.DeleteFunc(all[:steps-1], func(op api.Op) bool { return op.Kind == api.OpHead || op.Kind == api.OpBack })
	if !slices.Equal(all, plain) {
		t.Fatalf("%s: done is %s, not %s", toldNest(of), shown(all), shown(plain))
	}
	return p
}

// TestFollows is P21.2: of graphs, plans and nests of all kinds.
func TestFollows(t *testing.T) {
	c := chance(212)
	deep := 0
	for range 3000 {
		g := c.graph(1 + c.below(pick(&c, 2, 6, 32)))
		deep = max(deep, follows(t, g, c.plan(g), c.nestOf(g)).Counters)
	}
	if deep < 5 {
		t.Error("no loops within loops:", deep)
	}
}

// TestFollowsAtLimits is P21.2: the nests and actors of which a program has the most operations, or a period does the most.
func TestFollowsAtLimits(t *testing.T) {
	wide := api.Graph{Name: "g", Actors: list(api.Actor{Name: "a", Tag: api.Add, Params: list(16)}, api.Actor{Name: "c", Tag: api.Copy, Params: list(16)})}
	ins, outs := ports(wide.Actors)
	for i := range outs {
		wide.Edges = append(wide.Edges, edge(outs[i], ins[len(ins)-1-i]))
	}
	plan := api.Plan{Regions: make([]api.Region, len(wide.Edges))}
	var ones, twos []api.Loop
	for i := range 2048 {
		ones = append(ones, leaf(i%2, 1))
	}
	for i := range 512 {
		twos = append(twos, block(2, leaf(i%2, 2)))
	}
	chain := within(leaf(1, 2), slices.Repeat(list(2), 10)...)
	for _, of := range [][]api.Loop{ones, twos, row(chain), row(leaf(0, 2048)), row(block(1024, leaf(1, 2))), row(block(2, leaf(1, 1024)))} {
		follows(t, wide, plan, of)
	}
	if p := follows(t, wide, plan, ones); len(p.Ops) != 2048*18+1 {
		t.Error(len(p.Ops))
	}
	if steps, _ := code.Steps(follows(t, wide, plan, row(chain))); steps != 1+2048*18+2047*3 {
		t.Error(steps)
	}
}

// list is some runs of nodes, with pieces that stand several times one behind the other: what loops.Compress has something to fold of.
func (c *chance) list(actors int) []int {
	var all []int
	for range c.below(pick(c, 3, 10, 30)) {
		all = append(all, slices.Repeat(list(c.below(actors)), 1+c.below(3))...)
		if from := max(0, len(all)-2-c.below(8)); c.below(2) == 0 && len(all) < 500 {
			all = append(all, slices.Repeat(all[from:], 1+c.below(6))...)
		}
	}
	return all
}

// compressed fails, unless P21.2 and P21.3 hold of a list that is folded into loops.
func compressed(t *testing.T, g api.Graph, plan api.Plan, of []int) api.Program {
	t.Helper()
	folded, e := loops.Compress(of...)
	if e != api.OK {
		t.Fatal(of, e)
	}
	p := follows(t, g, plan, folded)
	runs := len(nest.Runs(of...))
	if count(p.Ops, api.OpCall) > runs || count(p.Ops, api.OpHead) > runs {
		t.Fatalf("%v: %d runs: %s", of, runs, told(p))
	}
	return p
}

// TestCompressed is P21.3: many lists, of which some can be folded far and some not at all.
func TestCompressed(t *testing.T) {
	c := chance(213)
	folded, loose := 0, 0
	for range 2000 {
		g := c.graph(1 + c.below(8))
		of := c.list(len(g.Actors))
		p := compressed(t, g, c.plan(g), of)
		switch calls, runs := count(p.Ops, api.OpCall), len(nest.Runs(of...)); {
		case 2*calls < runs:
			folded++
		case calls == runs:
			loose++
		}
	}
	if folded < 100 || loose < 100 {
		t.Error("too few of a kind", folded, loose)
	}
	g := parsed(t, "graph g { actor a = tick 1 1; actor b = drop 1; edge a.0 -> b.0; }")
	ops(t, g, planOf(0, 0, 0), nil, 0, "end")
	p := compressed(t, g, planOf(1, 0, 1), slices.Repeat(list(0, 1), 1024))
	if shown(p.Ops) != "head 0 1024, call 0, give 0 1, take 0 1, call 1, back 0 1, end" {
		t.Error(shown(p.Ops))
	}
}

// carries fails, unless over two periods no line lacks tokens that are taken, nor room for those given, and each has as many behind a period as ahead of it.
func carries(t *testing.T, p api.Program) {
	t.Helper()
	var start []int
	for _, line := range p.Lines {
		start = append(start, len(line.Start))
	}
	has := slices.Clone(start)
	for range 2 {
		for _, op := range done(p) {
			switch op.Kind {
			case api.OpTake:
				has[op.A] -= op.B
			case api.OpGive:
				has[op.A] += op.B
			default:
				continue
			}
			if has[op.A] < 0 || has[op.A] > p.Lines[op.A].Region.Size {
				t.Fatalf("line %d has %d: %s", op.A, has[op.A], told(p))
			}
		}
		if !slices.Equal(has, start) {
			t.Fatalf("%v, not %v: %s", has, start, told(p))
		}
	}
}

// TestTexts is P21.1 to P21.3: the programs of texts, among them the document's whole examples, by the plan and the loops that the layers below answer.
func TestTexts(t *testing.T) {
	for _, c := range []struct {
		text          string
		memory, steps int
		want          string
	}{
		{"graph g { actor a = up 2; actor b = down 3; edge a.0 -> b.0; in x -> a.0; out b.0 -> y; }", 4, 19,
			"head 0 2, read 0 1, call 0, give 0 2, back 0 1, take 0 3, call 1, write 0 1, read 0 1, call 0, give 0 2, take 0 3, call 1, write 0 1, end"},
		{"graph h { actor a = tick 1 1; actor b = drop 2; edge a.0 -> b.0; }", 2, 10,
			"head 0 2, call 0, give 0 1, back 0 1, take 0 2, call 1, end"},
		{"graph n { actor a = up 4; actor b = down 2; actor c = sum; edge a.0 -> b.0; edge b.0 -> c.0; in x -> a.0; out c.0 -> y; }", 5, 19,
			"read 0 1, call 0, give 0 4, head 0 2, take 0 2, call 1, give 1 1, take 1 1, call 2, write 0 1, back 0 4, end"},
		{"graph acc { actor a = add 2; actor c = copy 2; edge a.0 -> c.0; edge c.0 -> a.0 with 10; in x -> a.1; out c.1 -> y; }", 1, 9,
			"take 1 1, read 0 1, call 0, give 0 1, take 0 1, call 1, give 1 1, write 0 1, end"},
		{"graph q { actor a = quot; in n -> a.0; in d -> a.1; out a.0 -> y; }", 0, 5,
			"read 0 1, read 1 1, call 0, write 0 1, end"},
		{"graph w { actor u = unweave 2 3; actor w = weave 2 2; edge u.0 -> w.1; edge u.1 -> w.0; in x -> u.0; out w.0 -> y; }", 8, 24,
			"read 0 6, call 0, give 0 3, give 1 3, take 1 2, take 0 2, call 1, write 0 4, read 0 6, call 0, give 0 3, give 1 3, head 0 2, take 1 2, take 0 2, call 1, write 0 4, back 0 13, end"},
	} {
		g := parsed(t, c.text)
		n, _ := net.Of(g)
		b, _ := balance.Solve(n)
		period, _ := simul.Run(n, b.Reps)
		plan, e := pack.Place(n, period.List...)
		if e != api.OK {
			t.Fatal(c.text, e)
		}
		p := compressed(t, g, plan, period.List)
		carries(t, p)
		if steps, _ := code.Steps(p); shown(p.Ops) != c.want || steps != c.steps || p.Memory != c.memory {
			t.Errorf("%s: %d cells, %d steps: %s", c.text, p.Memory, steps, shown(p.Ops))
		}
	}
}
