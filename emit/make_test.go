package emit_test

import (
	"slices"
	"strconv"
	"testing"

	"pianola/api"
	"pianola/graph"
)

// TestExamples is P21.1: the chapter's examples.
func TestExamples(t *testing.T) {
	g, plan := small(t), planOf(3, 0, 3)
	want := api.Program{Memory: 3, Counters: 1, Ins: 1, Outs: 1}
	want.Parts = list(api.Part{Tag: api.Up, Params: list(2)}, api.Part{Tag: api.Sum})
	want.Lines = list(api.Line{Region: api.Region{Base: 0, Size: 3}, Start: list(7)})
	want.Ops = list(
		api.Op{Kind: api.OpRead, A: 0, B: 1}, api.Op{Kind: api.OpCall, A: 0, B: 0}, api.Op{Kind: api.OpGive, A: 0, B: 2},
		api.Op{Kind: api.OpHead, A: 0, B: 2}, api.Op{Kind: api.OpTake, A: 0, B: 1}, api.Op{Kind: api.OpCall, A: 1, B: 0},
		api.Op{Kind: api.OpWrite, A: 0, B: 1}, api.Op{Kind: api.OpBack, A: 0, B: 4}, api.Op{Kind: api.OpEnd, A: 0, B: 0},
	)
	makes(t, g, plan, row(leaf(0, 1), leaf(1, 2)), want)
	ops(t, g, plan, row(block(3, leaf(0, 1), leaf(1, 2))), 2, "head 0 3, read 0 1, call 0, give 0 2, head 1 2, take 0 1, call 1, write 0 1, back 1 5, back 0 1, end")
	ops(t, g, plan, nil, 0, "end")
	refuses(t, g, plan, row(leaf(2, 1)), api.ErrNode)
	refuses(t, g, planOf(2, 0, 3), row(leaf(0, 1)), api.ErrPlan)
	refuses(t, g, planOf(3), row(leaf(0, 1)), api.ErrPlan)
	refuses(t, g, planOf(3, 0, 0), row(leaf(0, 1)), api.ErrPlan)
}

// TestFirings is P21.1: the operations of a firing of each tag, with the rates of its ports, in-ports first; edges, inputs and outputs by their own orders, not by those of the ports.
func TestFirings(t *testing.T) {
	for _, c := range []struct{ text, want string }{
		{"actor a = filter 1 2 3; in x -> a.0; out a.0 -> y;", "read 0 1, call 0, write 0 1"},
		{"actor a = up 64; in x -> a.0; out a.0 -> y;", "read 0 1, call 0, write 0 64"},
		{"actor a = down 63; in x -> a.0; out a.0 -> y;", "read 0 63, call 0, write 0 1"},
		{"actor a = weave 3 5; in x -> a.0; in z -> a.1; in w -> a.2; out a.0 -> y;", "read 0 5, read 1 5, read 2 5, call 0, write 0 15"},
		{"actor a = weave 3 5; in x -> a.2; in z -> a.0; in w -> a.1; out a.0 -> y;", "read 1 5, read 2 5, read 0 5, call 0, write 0 15"},
		{"actor a = unweave 2 4; in x -> a.0; out a.1 -> y; out a.0 -> z;", "read 0 8, call 0, write 1 4, write 0 4"},
		{"actor a = add 2; in x -> a.1; in w -> a.0; out a.0 -> y;", "read 1 1, read 0 1, call 0, write 0 1"},
		{"actor a = quot; in n -> a.0; in d -> a.1; out a.0 -> y;", "read 0 1, read 1 1, call 0, write 0 1"},
		{"actor a = sum; in x -> a.0; out a.0 -> y;", "read 0 1, call 0, write 0 1"},
		{"actor a = copy 3; in x -> a.0; out a.2 -> u; out a.0 -> v; out a.1 -> w;", "read 0 1, call 0, write 1 1, write 2 1, write 0 1"},
		{"actor a = tick 5 -1; out a.0 -> y;", "call 0, write 0 1"},
		{"actor a = drop 64; in x -> a.0;", "read 0 64, call 0"},
		{"actor a = copy 1; edge a.0 -> a.0 with 3;", "take 0 1, call 0, give 0 1"},
		{"actor a = up 7; edge a.0 -> a.0 with 3;", "take 0 1, call 0, give 0 7"},
		{"actor b = sum; actor a = sum; in x -> a.0; out a.0 -> y; in v -> b.0; out b.0 -> w;", "read 1 1, call 0, write 1 1"},
	} {
		g := parsed(t, "graph g { "+c.text+" }")
		plan := api.Plan{Total: 1024, Regions: slices.Repeat(list(api.Region{Size: 9}), len(g.Edges))}
		ops(t, g, plan, row(leaf(0, 1)), 0, c.want+", end")
	}
}

// TestMixedPorts is P21.1: edges, inputs and outputs on the ports of one actor, and an edge from it to itself.
func TestMixedPorts(t *testing.T) {
	g := parsed(t, `graph g {
		actor u = unweave 3 2; actor w = weave 4 3;
		edge u.2 -> w.1 with 1 2; edge w.0 -> u.0; edge u.0 -> w.3;
		in p -> w.2; in q -> w.0; out u.1 -> r;
	}`)
	plan := planOf(40, 0, 2, 2, 0, 40, 0)
	ops(t, g, plan, row(leaf(0, 1), leaf(1, 1)), 0, "take 1 6, call 0, give 2 2, write 0 2, give 0 2, read 1 3, take 0 3, read 0 3, take 2 3, call 1, give 1 12, end")
	g = parsed(t, `graph g {
		actor c = copy 3; actor a = add 3; actor d = drop 2;
		edge c.1 -> a.2; edge a.0 -> c.0 with 1; edge c.2 -> d.0;
		in x -> a.0; in z -> a.1; out c.0 -> y;
	}`)
	plan = planOf(9, 3, 4, 8, 1, 0, 9)
	ops(t, g, plan, row(leaf(2, 1), leaf(1, 1), leaf(0, 1)), 0, "take 2 2, call 2, read 0 1, read 1 1, take 0 1, call 1, give 1 1, take 1 1, call 0, write 0 1, give 0 1, give 2 1, end")
	g = parsed(t, "graph g { actor a = add 2; actor c = copy 2; edge c.0 -> a.1; edge c.1 -> a.0; edge a.0 -> c.0; }")
	ops(t, g, planOf(0, 0, 0, 0, 0, 0, 0), row(leaf(0, 1), leaf(1, 1)), 0, "take 1 1, take 0 1, call 0, give 2 1, take 2 1, call 1, give 0 1, give 1 1, end")
}

// TestLoops is P21.1: a head and a back just where a loop goes round more than once; its counter tells how many such loops it is within, those that go round once do not count.
func TestLoops(t *testing.T) {
	g := parsed(t, "graph g { actor a = tick 1 1; actor b = drop 2; edge a.0 -> b.0; }")
	plan := planOf(2, 0, 2)
	a, b := leaf(0, 1), leaf(1, 1)
	for _, c := range []struct {
		nest     []api.Loop
		counters int
		want     string
	}{
		{row(a, b), 0, "call 0, give 0 1, take 0 2, call 1"},
		{row(leaf(0, 2), b), 1, "head 0 2, call 0, give 0 1, back 0 1, take 0 2, call 1"},
		{row(leaf(0, 2048)), 1, "head 0 2048, call 0, give 0 1, back 0 1"},
		{row(leaf(1, 2), leaf(0, 3), leaf(1, 4)), 1, "head 0 2, take 0 2, call 1, back 0 1, head 0 3, call 0, give 0 1, back 0 5, head 0 4, take 0 2, call 1, back 0 9"},
		{row(block(1, a, b)), 0, "call 0, give 0 1, take 0 2, call 1"},
		{row(block(2, a, b)), 1, "head 0 2, call 0, give 0 1, take 0 2, call 1, back 0 1"},
		{row(block(1, leaf(0, 2))), 1, "head 0 2, call 0, give 0 1, back 0 1"},
		{row(block(2, leaf(0, 3))), 2, "head 0 2, head 1 3, call 0, give 0 1, back 1 2, back 0 1"},
		{row(b, block(2, block(1, block(3, b)))), 2, "take 0 2, call 1, head 0 2, head 1 3, take 0 2, call 1, back 1 4, back 0 3"},
		{row(block(2, block(3, b)), leaf(0, 2)), 2, "head 0 2, head 1 3, take 0 2, call 1, back 1 2, back 0 1, head 0 2, call 0, give 0 1, back 0 7"},
		{row(leaf(0, 2), block(2, a, leaf(1, 2), block(4, a))), 2, "head 0 2, call 0, give 0 1, back 0 1, head 0 2, call 0, give 0 1, head 1 2, take 0 2, call 1, back 1 8, head 1 4, call 0, give 0 1, back 1 12, back 0 5"},
		{row(within(a, 1, 2, 1, 1, 3, 1, 2)), 3, "head 0 2, head 1 3, head 2 2, call 0, give 0 1, back 2 3, back 1 2, back 0 1"},
		{row(within(a, slices.Repeat(list(1), 16)...)), 0, "call 0, give 0 1"},
	} {
		ops(t, g, plan, c.nest, c.counters, c.want+", end")
	}
}

// TestEmptyBodies is P21.1: a loop is a leaf, if its Body is empty, be it nil or not.
func TestEmptyBodies(t *testing.T) {
	g := small(t)
	for _, body := range [][]api.Loop{nil, {}, row(leaf(9, 0))[:0]} {
		ops(t, g, planOf(3, 0, 3), row(api.Loop{Times: 1, Node: 1, Body: body}), 0, "take 0 1, call 1, write 0 1, end")
	}
	for _, none := range [][]api.Loop{nil, {}, row(leaf(9, 0))[:0]} {
		ops(t, g, planOf(3, 0, 3), none, 0, "end")
	}
}

// TestAllButOps is P21.1: Memory is the plan's Total, whatever the regions need of it; parts, lines, inputs and outputs are there, whether the nest has them fire or not.
func TestAllButOps(t *testing.T) {
	g := parsed(t, `graph g {
		actor f = filter -1 0 5; actor t = tick 9223372036854775807 -9223372036854775808; actor w = weave 2 1; actor s = sum; actor d = drop 1;
		edge t.0 -> w.1 with -3; edge w.0 -> s.0; edge f.0 -> w.0 with 4 5; edge s.0 -> d.0 with 0;
		in x -> f.0;
	}`)
	want := api.Program{Memory: 1024, Ins: 1}
	want.Parts = list(
		api.Part{Tag: api.Filter, Params: list(-1, 0, 5)}, api.Part{Tag: api.Tick, Params: list(greatest, least)},
		api.Part{Tag: api.Weave, Params: list(2, 1)}, api.Part{Tag: api.Sum}, api.Part{Tag: api.Drop, Params: list(1)},
	)
	want.Lines = list(
		api.Line{Region: api.Region{Base: 5, Size: 1}, Start: list(-3)}, api.Line{Region: api.Region{Base: 7, Size: 0}},
		api.Line{Region: api.Region{Base: 0, Size: 9}, Start: list(4, 5)}, api.Line{Region: api.Region{Base: 1, Size: 2}, Start: list(0)},
	)
	want.Ops = list(api.Op{})
	makes(t, g, planOf(1024, 5, 1, 7, 0, 0, 9, 1, 2), nil, want)
	want.Memory = 9
	makes(t, g, planOf(9, 5, 1, 7, 0, 0, 9, 1, 2), nil, want)
	want.Ops = list(api.Op{Kind: api.OpCall, A: 1}, api.Op{Kind: api.OpGive, A: 0, B: 1}, api.Op{})
	makes(t, g, planOf(9, 5, 1, 7, 0, 0, 9, 1, 2), row(leaf(1, 1)), want)
	g = parsed(t, "graph g { actor a = add 3; actor c = copy 2; in x -> a.0; in y -> a.1; in z -> a.2; out a.0 -> u; in v -> c.0; out c.0 -> p; out c.1 -> q; }")
	makes(t, g, planOf(0), nil, api.Program{Ins: 4, Outs: 3, Parts: list(api.Part{Tag: api.Add, Params: list(3)}, api.Part{Tag: api.Copy, Params: list(2)}), Ops: list(api.Op{})})
}

// TestNames is P21.1: names do not count, neither the graph's nor those of actors and ports.
func TestNames(t *testing.T) {
	one := small(t)
	two := parsed(t, "graph with { actor sum = up 2; actor up = sum; edge sum.0 -> up.0 with 7; in b -> sum.0; out up.0 -> a; }")
	nest := row(leaf(0, 1), leaf(1, 2))
	makes(t, two, planOf(3, 0, 3), nest, made(t, one, planOf(3, 0, 3), nest...))
}

// everyRow are all rows of at most so many of some loops.
func everyRow(of []api.Loop, most int) [][]api.Loop {
	all := [][]api.Loop{nil}
	for at := 0; len(all[at]) < most; at++ {
		for _, loop := range of {
			all = append(all, append(slices.Clone(all[at]), loop))
		}
	}
	return all
}

// TestEveryNest is P21.1: all nests of up to three loops, leaves of two actors or blocks of up to two leaves, that go round once or twice, and blocks of some of these, against a model.
func TestEveryNest(t *testing.T) {
	g := parsed(t, "graph g { actor a = tick 1 1; actor b = drop 2; edge a.0 -> b.0; }")
	plan := planOf(2, 0, 2)
	leaves := row(leaf(0, 1), leaf(0, 2), leaf(1, 1), leaf(1, 3))
	some := slices.Clone(leaves)
	for _, body := range everyRow(leaves, 2)[1:] {
		some = append(some, block(1, body...), block(2, body...))
	}
	for _, nest := range everyRow(some, 3) {
		if e := agrees(t, g, plan, nest); e != api.OK {
			t.Fatal(e)
		}
	}
	var deeper []api.Loop
	for _, body := range everyRow(some, 2)[1:] {
		deeper = append(deeper, block(1, body...), block(3, body...))
	}
	for _, loop := range deeper {
		for _, nest := range [][]api.Loop{row(loop), row(leaf(0, 2), loop, leaf(1, 2))} {
			if e := agrees(t, g, plan, nest); e != api.OK {
				t.Fatal(e)
			}
		}
	}
}

// greatestGraph has 32 actors, 96 edges of 256 tokens, 16 inputs and 16 outputs.
func greatestGraph(t *testing.T) api.Graph {
	t.Helper()
	g := api.Graph{Name: "g"}
	for _, some := range []struct {
		many   int
		tag    api.Tag
		params []int
	}{
		{5, api.Unweave, list(16, 4)}, {5, api.Weave, list(16, 4)},
		{5, api.Unweave, list(2, 32)}, {5, api.Weave, list(2, 32)},
		{6, api.Up, list(64)}, {6, api.Down, list(64)},
	} {
		for range some.many {
			g.Actors = append(g.Actors, api.Actor{Name: "a" + strconv.Itoa(len(g.Actors)), Tag: some.tag, Params: some.params})
		}
	}
	ins, outs := ports(g.Actors)
	g.Ins, g.Outs = ins[:16], outs[:16]
	for i, to := range ins[16:] {
		start := slices.Repeat(list(i, least, greatest, -i), 64)
		g.Edges = append(g.Edges, edge(outs[16+i], to, start...))
	}
	if e := graph.Check(g); e != api.OK || len(g.Actors) != 32 || len(g.Edges) != 96 {
		t.Fatal(e, len(g.Actors), len(g.Edges))
	}
	return g
}

// TestGreatest is P21.1: the greatest graph, with nests at their limits: 2048 leaves, 2048 blocks of two loops, 16 blocks within one another, 11 heads within one another.
func TestGreatest(t *testing.T) {
	g := greatestGraph(t)
	plan := api.Plan{Total: 1024}
	for i := range g.Edges {
		plan.Regions = append(plan.Regions, api.Region{Base: i * 8, Size: 256})
	}
	var leaves, blocks, deep []api.Loop
	for i := range 2048 {
		leaves = append(leaves, leaf(i%32, 1))
		deep = append(deep, within(leaf(i*7%32, 1), slices.Repeat(list(1), 16)...))
	}
	for i := range 512 {
		blocks = append(blocks, block(2, leaf(i%32, 2)))
	}
	twos := slices.Repeat(list(2), 11)
	tenTwos := slices.Concat(twos[:5], list(1, 1, 1, 1, 1, 1), twos[:5])
	for _, nest := range [][]api.Loop{leaves, blocks, deep, row(within(leaf(31, 1), twos...)), row(within(leaf(31, 2), tenTwos...)), row(block(1, leaves...)), row(leaf(31, 2048))} {
		if e := agrees(t, g, plan, nest); e != api.OK {
			t.Fatal(e)
		}
	}
	if p := made(t, g, plan, within(leaf(31, 2), tenTwos...)); p.Counters != 11 {
		t.Error(p.Counters)
	}
	if p := made(t, g, plan, blocks...); p.Counters != 2 {
		t.Error(p.Counters)
	}
}

// TestMixed is P21.1: graphs, nests and plans of all kinds, sound ones and ones with some things changed, against a model.
func TestMixed(t *testing.T) {
	c := chance(211)
	met := map[api.Errno]int{}
	for round := range 6000 {
		g := c.graph(1 + c.below(pick(&c, 2, 6, 32)))
		plan, nest := c.plan(g), c.nestOf(g)
		if e := agrees(t, g, plan, nest); e != api.OK {
			t.Fatal(e)
		}
		if round%8 == 0 {
			c.spoilGraph(&g)
		}
		if round%4 == 1 {
			c.spoilNest(nest, len(g.Actors))
		}
		for range c.below(3) {
			c.spoilPlan(&plan)
		}
		met[agrees(t, g, plan, nest)]++
	}
	for _, e := range list(api.OK, api.ErrTimes, api.ErrNode, api.ErrTooBig, api.ErrDeep, api.ErrForm, api.ErrPlan, api.ErrParams, api.ErrOpen, api.ErrTaken) {
		if met[e] < 10 {
			t.Errorf("%v: %d only", e, met[e])
		}
	}
}
