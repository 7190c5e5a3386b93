package emit_test

import (
	"reflect"
	"slices"
	"testing"

	"pianola/api"
	"pianola/emit"
)

// scrawl writes into a list and into all the room behind it.
func scrawl[T any](list []T, with T) {
	list = list[:cap(list)]
	for i := range list {
		list[i] = with
	}
}

// room is how much lies behind a roomy list.
const room = 3

// roomy is the same list with room behind it, in which this lies.
func roomy[T any](list []T, behind T) []T {
	return slices.Concat(list, slices.Repeat([]T{behind}, room))[:len(list)]
}

// given is what Make is handed.
type given struct {
	graph api.Graph
	plan  api.Plan
	nest  []api.Loop
}

// withRoom is the same with room behind all its lists; what lies there would, as a rule, make it another one, or a wrong one.
func (x given) withRoom() given {
	g := x.graph
	g.Actors, g.Edges = roomy(g.Actors, api.Actor{Name: "z", Tag: api.Sum}), roomy(g.Edges, api.Edge{From: 99})
	g.Ins, g.Outs = roomy(g.Ins, api.Port{Port: 99}), roomy(g.Outs, api.Port{Port: 99})
	for i := range g.Actors {
		g.Actors[i].Params = roomy(g.Actors[i].Params, 99)
	}
	for i := range g.Edges {
		g.Edges[i].Start = roomy(g.Edges[i].Start, 99)
	}
	plan := api.Plan{Total: x.plan.Total, Regions: roomy(x.plan.Regions, api.Region{Base: -1, Size: 9})}
	return given{g, plan, roomyNest(x.nest)}
}

func roomyNest(of []api.Loop) []api.Loop {
	long := roomy(of, leaf(0, 2))
	for i := range long {
		long[i].Body = roomyNest(long[i].Body)
	}
	return long
}

// full is one with room, all of it: copied, each list with what lies behind it.
func (x given) full() given {
	g := x.graph
	g.Actors, g.Edges = longer(g.Actors), longer(g.Edges)
	g.Ins, g.Outs = longer(g.Ins), longer(g.Outs)
	for i := range x.graph.Actors {
		g.Actors[i].Params = longer(g.Actors[i].Params)
	}
	for i := range x.graph.Edges {
		g.Edges[i].Start = longer(g.Edges[i].Start)
	}
	return given{g, api.Plan{Total: x.plan.Total, Regions: longer(x.plan.Regions)}, fullNest(x.nest)}
}

func longer[T any](list []T) []T { return slices.Clone(list[:len(list)+room]) }

func fullNest(of []api.Loop) []api.Loop {
	all := longer(of)
	for i := range of {
		all[i].Body = fullNest(all[i].Body)
	}
	return all
}

// scrawlAll writes into all lists that Make was handed.
func (x given) scrawlAll() {
	for _, a := range x.graph.Actors {
		scrawl(a.Params, 77)
	}
	for _, e := range x.graph.Edges {
		scrawl(e.Start, 77)
	}
	scrawl(x.graph.Actors, api.Actor{Tag: 77})
	scrawl(x.graph.Edges, api.Edge{From: 77})
	scrawl(x.graph.Ins, api.Port{Port: 77})
	scrawl(x.graph.Outs, api.Port{Port: 77})
	scrawl(x.plan.Regions, api.Region{Base: 77, Size: 77})
	for _, loop := range allLoops(x.nest) {
		loop.Times, loop.Node = 77, 77
	}
}

// some is something to be handed to Make, sound or not.
func (c *chance) some() given {
	g := c.graph(1 + c.below(8))
	x := given{g, c.plan(g), c.nest(len(g.Actors), c.total()%300, c.below(17))}
	switch c.below(5) {
	case 0:
		c.spoilGraph(&x.graph)
	case 1:
		c.spoilNest(x.nest, len(g.Actors))
	case 2:
		c.spoilPlan(&x.plan)
	}
	return x
}

// TestGivenIsLeft is R2: the graph, the plan and the nest, and the room behind all their lists, are neither written into nor, behind their lengths, read.
func TestGivenIsLeft(t *testing.T) {
	c := chance(221)
	met := map[api.Errno]int{}
	for range 1500 {
		plain := c.some()
		want := refusalOf(plain.graph, plain.plan, plain.nest)
		x := plain.withRoom()
		was := x.full()
		if e := agrees(t, x.graph, x.plan, x.nest); e != want {
			t.Fatalf("%v, not %v", e, want)
		}
		if !reflect.DeepEqual(x.full(), was) {
			t.Fatalf("%v is now %v", was, x.full())
		}
		met[want]++
	}
	if met[api.OK] < 400 || met[api.ErrPlan] < 50 || met[api.ErrNode] < 10 || len(met) < 10 {
		t.Error("too few of a kind", met)
	}
}

// scrawlEach writes into each list within a program, one by one, and fails, if another one is changed by that. At the end all are as they were.
func scrawlEach(t *testing.T, p, want api.Program) {
	t.Helper()
	for i := range p.Parts {
		scrawl(p.Parts[i].Params, 77)
		p.Parts[i].Params = want.Parts[i].Params
		if !same(p, want) {
			t.Fatalf("part %d shares its parameters: %s", i, told(want))
		}
	}
	for i := range p.Lines {
		scrawl(p.Lines[i].Start, 77)
		p.Lines[i].Start = want.Lines[i].Start
		if !same(p, want) {
			t.Fatalf("line %d shares its tokens: %s", i, told(want))
		}
	}
}

// scrawlRest writes into all lists of a program.
func scrawlRest(p api.Program) {
	scrawl(p.Parts, api.Part{Tag: 77})
	scrawl(p.Lines, api.Line{Region: api.Region{Base: 77}})
	scrawl(p.Ops, api.Op{Kind: 77})
}

// copied shares no list with the program.
func copied(p api.Program) api.Program {
	p.Parts, p.Lines, p.Ops = slices.Clone(p.Parts), slices.Clone(p.Lines), slices.Clone(p.Ops)
	for i := range p.Parts {
		p.Parts[i].Params = slices.Clone(p.Parts[i].Params)
	}
	for i := range p.Lines {
		p.Lines[i].Start = slices.Clone(p.Lines[i].Start)
	}
	return p
}

// TestNothingIsShared is R2: the lists of a program share no memory with one another, with those of another program, nor with what Make was handed, even where the lists of that are one list.
func TestNothingIsShared(t *testing.T) {
	c := chance(222)
	for range 600 {
		x := c.some()
		if refusalOf(x.graph, x.plan, x.nest) != api.OK {
			continue
		}
		x = x.withRoom()
		one, two := made(t, x.graph, x.plan, x.nest...), made(t, x.graph, x.plan, x.nest...)
		want := copied(programOf(x.graph, x.plan, x.nest))
		scrawlEach(t, two, want)
		scrawlRest(two)
		if !same(one, want) || !same(made(t, x.graph, x.plan, x.nest...), want) {
			t.Fatalf("%s, once another one is written into", told(one))
		}
		x.scrawlAll()
		if !same(one, want) {
			t.Fatalf("%s: what was handed in is kept", told(one))
		}
	}
	g := parsed(t, "graph g { actor a = filter 1 1; actor b = filter 1 1; edge a.0 -> b.0 with 1 1; edge b.0 -> a.0 with 1 1; }")
	ones := list(1, 1)
	g.Actors[0].Params, g.Actors[1].Params, g.Edges[0].Start, g.Edges[1].Start = ones, ones, ones, ones
	p := made(t, g, planOf(2, 0, 2, 0, 2), leaf(0, 1))
	scrawlEach(t, p, copied(p))
	if !slices.Equal(ones, list(1, 1)) {
		t.Error(ones)
	}
}

// TestCallsAreApart is R2: calls do not hang on those ahead of them, of other graphs and of such that are refused.
func TestCallsAreApart(t *testing.T) {
	c := chance(223)
	for range 200 {
		x := c.some()
		first, e := emit.Make(x.graph, x.plan, x.nest...)
		TestExamples(t)
		again, f := emit.Make(x.graph, x.plan, x.nest...)
		if e != f || !same(first, again) {
			t.Fatalf("%s %v, and then %s %v", told(first), e, told(again), f)
		}
	}
}
