package emit_test

import (
	"slices"
	"testing"

	"pianola/api"
	"pianola/emit"
	"pianola/graph"
	"pianola/nest"
)

// TestGraphRefused is P21.1: each kind of graph that graph.Check refuses has its error, whether the nest and the plan are right or not.
func TestGraphRefused(t *testing.T) {
	for i, c := range []struct {
		spoil func(g *api.Graph)
		want  api.Errno
	}{
		{func(g *api.Graph) { *g = api.Graph{} }, api.ErrName},
		{func(g *api.Graph) { g.Name = "" }, api.ErrName},
		{func(g *api.Graph) { g.Actors = nil }, api.ErrEmpty},
		{func(g *api.Graph) { g.Actors = make([]api.Actor, 33) }, api.ErrMany},
		{func(g *api.Graph) { g.Edges = make([]api.Edge, 97) }, api.ErrMany},
		{func(g *api.Graph) { g.Ins = make([]api.Port, 17) }, api.ErrMany},
		{func(g *api.Graph) { g.Outs = make([]api.Port, 17) }, api.ErrMany},
		{func(g *api.Graph) { g.Actors[1].Name = "a" }, api.ErrTwice},
		{func(g *api.Graph) { g.Actors[0].Tag = 0 }, api.ErrTag},
		{func(g *api.Graph) { g.Actors[0].Tag = 255 }, api.ErrTag},
		{func(g *api.Graph) { g.Actors[0].Params = list(65) }, api.ErrParams},
		{func(g *api.Graph) { g.Actors[0].Params = nil }, api.ErrParams},
		{func(g *api.Graph) { g.Edges[0].From = -1 }, api.ErrActor},
		{func(g *api.Graph) { g.Edges[0].ToPort = greatest }, api.ErrPort},
		{func(g *api.Graph) { g.Edges = append(g.Edges, g.Edges[0]) }, api.ErrTaken},
		{func(g *api.Graph) { g.Edges[0].Start = make([]int, 257) }, api.ErrStart},
		{func(g *api.Graph) { g.Ins[0].Actor = least }, api.ErrActor},
		{func(g *api.Graph) { g.Outs[0].Port = -1 }, api.ErrPort},
		{func(g *api.Graph) { g.Outs[0].Actor = 0 }, api.ErrTaken},
		{func(g *api.Graph) { g.Ins = nil }, api.ErrOpen},
		{func(g *api.Graph) { g.Outs = nil }, api.ErrOpen},
		{func(g *api.Graph) { g.Edges = nil }, api.ErrOpen},
	} {
		g := small(t)
		c.spoil(&g)
		if e := graph.Check(g); e != c.want {
			t.Errorf("%d: graph.Check: %v, not %v", i, e, c.want)
		}
		for _, plan := range []api.Plan{planOf(3, 0, 3), planOf(0, 0, 0), {}, planOf(-1, -1, -1), planOf(1024, slices.Repeat(list(0, 257), 97)...)} {
			for _, loops := range [][]api.Loop{nil, row(leaf(0, 1)), row(leaf(1, 2)), row(leaf(2, 1)), row(leaf(0, 0)), row(leaf(32, 1)), row(leaf(0, 2049))} {
				refuses(t, g, plan, loops, c.want)
			}
		}
	}
}

// wrongNests are ones that nest.Check refuses.
func wrongNests() map[api.Errno][][]api.Loop {
	ring := row(leaf(0, 1), block(1))
	ring[1].Body = ring
	return map[api.Errno][][]api.Loop{
		api.ErrTimes:  {row(leaf(0, 0)), row(leaf(2, -1)), row(leaf(0, 1), leaf(1, least)), row(block(0, leaf(0, 1))), row(block(2, leaf(5, 1), leaf(0, 0)))},
		api.ErrNode:   {row(leaf(-1, 1)), row(leaf(32, 1)), row(leaf(least, 1)), row(block(2, leaf(0, 1), leaf(greatest, 2)))},
		api.ErrForm:   {row(api.Loop{Times: 1, Node: 1, Body: row(leaf(0, 1))}), row(leaf(9, 1), api.Loop{Times: 2, Node: -1, Body: row(leaf(0, 1))})},
		api.ErrDeep:   {row(within(leaf(0, 1), slices.Repeat(list(1), 17)...)), row(leaf(9, 1), within(leaf(9, 1), slices.Repeat(list(1), 20)...)), ring},
		api.ErrTooBig: {row(leaf(0, 2049)), row(leaf(9, 2048), leaf(0, 1)), row(leaf(0, greatest)), row(block(greatest, leaf(0, greatest))), row(block(1025, leaf(0, 2))), slices.Repeat(row(leaf(0, 1)), 2049), row(block(1<<32, leaf(0, 1<<32)))},
	}
}

// TestNestRefused is P21.1: each kind of nest that nest.Check refuses has its error, whether the plan is right or not, and whether a leaf has a node that the graph does not have or not.
func TestNestRefused(t *testing.T) {
	g := small(t)
	for why, all := range wrongNests() {
		for _, loops := range all {
			if e := nest.Check(loops...); e != why {
				t.Fatalf("nest.Check: %v, not %v", e, why)
			}
			for _, plan := range []api.Plan{planOf(3, 0, 3), {}, planOf(-1, 0, 3), planOf(3, 0, 0), planOf(3, 0, 3, 0, 3)} {
				refuses(t, g, plan, loops, why)
			}
		}
	}
}

// TestNodes is P21.1: a leaf's Node is one of the graph's actors, wherever the leaf stands; of graphs of each number of actors. It counts ahead of the plan.
func TestNodes(t *testing.T) {
	g := api.Graph{Name: "g"}
	for many := 1; many <= 32; many++ {
		name := string([]byte{"abcdefgh"[many/8%8], "abcdefgh"[many%8]})
		g.Actors = append(g.Actors, api.Actor{Name: name, Tag: api.Sum})
		g.Edges = append(g.Edges, api.Edge{From: many - 1, To: many - 1})
		plan := api.Plan{Regions: make([]api.Region, many)}
		for node := range 33 {
			want, wrong := api.OK, api.ErrPlan
			if node >= many {
				want, wrong = api.ErrNode, api.ErrNode
			}
			for _, loops := range [][]api.Loop{
				row(leaf(node, 1)), row(leaf(node, 2048)), row(leaf(0, 1), leaf(many-1, 2), leaf(node, 1)), row(leaf(node, 3), leaf(0, 1)),
				row(block(2, leaf(0, 1), leaf(node, 1))), row(leaf(0, 1), within(leaf(node, 2), 1, 2, 1, 3), leaf(0, 1)), row(within(leaf(node, 1), slices.Repeat(list(1), 16)...)),
			} {
				if e := agrees(t, g, plan, loops); e != want {
					t.Fatalf("%d actors, %s: %v, not %v", many, toldNest(loops), e, want)
				}
				for _, p := range []api.Plan{{}, {Total: -1, Regions: plan.Regions}, {Total: 1025, Regions: plan.Regions}} {
					if len(p.Regions) != many || p.Total != 0 {
						refuses(t, g, p, loops, wrong)
					}
				}
			}
		}
	}
}

// TestRegions is P21.1: a region and a total of all small numbers, and of those at the edges, with a few tokens at the start, against a model in great numbers.
func TestRegions(t *testing.T) {
	g := small(t)
	edges := list(least, least+1, -1<<32, -1025, -1024, -3, -2, -1, 0, 1, 2, 3, 4, 255, 256, 257, 1021, 1022, 1023, 1024, 1025, 2047, 2048, 1<<32, 1<<62, greatest-1024, greatest-1, greatest)
	met := map[api.Errno]int{}
	for _, many := range list(0, 1, 2, 3, 255, 256) {
		g.Edges[0].Start = make([]int, many)
		for _, base := range edges {
			for _, size := range append(edges, many-1, many, many+1) {
				for _, total := range append(edges, many, many+1) {
					met[agrees(t, g, planOf(total, base, size), row(leaf(1, 1)))]++
				}
			}
		}
	}
	if len(met) != 2 || met[api.OK] < 500 {
		t.Error(met)
	}
}

// TestPlanEdges is P21.1: each way in which a plan is another graph's, and what is just right beside it.
func TestPlanEdges(t *testing.T) {
	g := parsed(t, "graph g { actor a = sum; actor b = sum; actor c = sum; edge a.0 -> b.0 with 1 2 3; edge b.0 -> c.0; edge c.0 -> a.0 with 4; }")
	for _, c := range []struct {
		plan api.Plan
		want api.Errno
	}{
		{planOf(3, 0, 3, 0, 0, 0, 1), api.OK},
		{planOf(3, 0, 3, 3, 0, 2, 1), api.OK},
		{planOf(1024, 0, 1024, 1024, 0, 1023, 1), api.OK},
		{planOf(1025, 0, 1024, 1024, 0, 1023, 1), api.ErrPlan},
		{planOf(3, 0, 3, 0, 0), api.ErrPlan},
		{planOf(3, 0, 3, 0, 0, 0, 1, 0, 1), api.ErrPlan},
		{planOf(3), api.ErrPlan},
		{planOf(2, 0, 3, 0, 0, 0, 1), api.ErrPlan},
		{planOf(-1, 0, 3, 0, 0, 0, 1), api.ErrPlan},
		{planOf(least, 0, 3, 0, 0, 0, 1), api.ErrPlan},
		{planOf(greatest, 0, 3, 0, 0, 0, 1), api.ErrPlan},
		{planOf(9, 0, 2, 0, 0, 0, 1), api.ErrPlan},
		{planOf(9, 0, 3, 0, -1, 0, 1), api.ErrPlan},
		{planOf(9, 0, 3, 5, -1, 0, 1), api.ErrPlan},
		{planOf(9, 0, 3, -1, 1, 0, 1), api.ErrPlan},
		{planOf(9, 0, 3, -1, 0, 0, 1), api.ErrPlan},
		{planOf(9, -1, 3, 0, 0, 0, 1), api.ErrPlan},
		{planOf(9, 6, 3, 0, 0, 0, 1), api.OK},
		{planOf(9, 7, 3, 0, 0, 0, 1), api.ErrPlan},
		{planOf(9, 0, 3, 9, 0, 0, 1), api.OK},
		{planOf(9, 0, 3, 10, 0, 0, 1), api.ErrPlan},
		{planOf(9, 0, 3, 0, 10, 0, 1), api.ErrPlan},
		{planOf(9, 0, 3, 0, 9, 8, 1), api.OK},
		{planOf(9, 0, 3, 0, 9, 8, 0), api.ErrPlan},
		{planOf(9, 0, 3, 0, 9, 9, 1), api.ErrPlan},
		{planOf(9, 0, 3, greatest, greatest, 8, 1), api.ErrPlan},
		{planOf(9, 0, 3, greatest, 1, 8, 1), api.ErrPlan},
		{planOf(9, 0, 3, 1, greatest, 8, 1), api.ErrPlan},
		{planOf(9, 0, 3, least, greatest, 8, 1), api.ErrPlan},
		{planOf(9, 0, 3, greatest, least, 8, 1), api.ErrPlan},
		{planOf(9, 0, 3, least, least, 8, 1), api.ErrPlan},
	} {
		for _, loops := range [][]api.Loop{nil, row(leaf(0, 1)), row(leaf(2, 2048))} {
			if e := agrees(t, g, c.plan, loops); e != c.want {
				t.Fatalf("%v: %v, not %v", c.plan, e, c.want)
			}
		}
	}
	none := parsed(t, "graph g { actor a = sum; in x -> a.0; out a.0 -> y; }")
	for total, want := range map[int]api.Errno{0: api.OK, 7: api.OK, 1024: api.OK, 1025: api.ErrPlan, -1: api.ErrPlan} {
		if e := agrees(t, none, api.Plan{Total: total}, nil); e != want {
			t.Fatalf("no regions, %d cells: %v, not %v", total, e, want)
		}
		refuses(t, none, planOf(total, 0, 0), nil, api.ErrPlan)
	}
}

// TestManyRegions is P21.1: a flaw of any one of many regions counts, and far too many regions are too many.
func TestManyRegions(t *testing.T) {
	g := greatestGraph(t)
	plan := api.Plan{Total: 1024}
	for i := range g.Edges {
		plan.Regions = append(plan.Regions, api.Region{Base: 8 * i, Size: 256})
	}
	for i := range plan.Regions {
		right := plan.Regions[i]
		for _, wrong := range list(api.Region{Base: 8 * i, Size: 255}, api.Region{Base: 769, Size: 256}, api.Region{Base: -1, Size: 256}, api.Region{Base: 0, Size: 1025}) {
			plan.Regions[i] = wrong
			refuses(t, g, plan, row(leaf(31, 1)), api.ErrPlan)
		}
		plan.Regions[i] = right
	}
	if e := agrees(t, g, plan, row(leaf(31, 1))); e != api.OK {
		t.Error(e)
	}
	for _, many := range list(0, 1, 95, 97, 192, 1000000) {
		refuses(t, g, api.Plan{Total: 1024, Regions: make([]api.Region, many)}, nil, api.ErrPlan)
	}
}

// TestWithinItself is R1: a nest that is within itself is refused, not gone through for ever.
func TestWithinItself(t *testing.T) {
	ring := row(block(2), leaf(0, 1))
	ring[0].Body = ring
	for range 3 {
		if _, e := emit.Make(small(t), planOf(3, 0, 3), ring...); e != api.ErrDeep {
			t.Error(e)
		}
	}
}
