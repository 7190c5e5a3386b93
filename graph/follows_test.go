package graph_test

import (
	"slices"
	"testing"

	"pianola/api"
	"pianola/graph"
	"pianola/shape"
)

// bare is a sketch without the places in its text, Kind by Kind.
func bare(s api.Sketch) api.Sketch {
	items := slices.Clone(s.Items)
	for i := range items {
		items[i].At, items[i].From.At, items[i].To.At = 0, 0, 0
	}
	slices.SortStableFunc(items, func(a, b api.Item) int { return int(a.Kind) - int(b.Kind) })
	return api.Sketch{Name: s.Name, Items: items}
}

// TestThereAndBack is P8.3 and P8.4: Build of what Draw tells is the graph; Draw of what Build makes has the sketch's items, Kind by Kind.
func TestThereAndBack(t *testing.T) {
	c := chance(84)
	for range 4000 {
		s := c.sound(1 + c.below(8))
		g, f := graph.Build(s)
		if f != (api.Fault{}) || graph.Check(g) != api.OK {
			t.Fatalf("%v: %v", s, f)
		}
		drawn, e := graph.Draw(g)
		if e != api.OK || !sameSketch(drawn, bare(s)) {
			t.Fatalf("%v: %v %v", s, drawn, e)
		}
		if again, f := graph.Build(drawn); f != (api.Fault{}) || !same(again, g) {
			t.Fatalf("%v: %v %v", g, again, f)
		}
	}
	for _, g := range []api.Graph{row(32), bundle(96), fan(16, 16), based(t)} {
		drawn, e := graph.Draw(g)
		if e != api.OK {
			t.Fatal(e)
		}
		builds(t, drawn, g, api.Fault{})
	}
}

// TestOrderOfKinds is P8.4: items of unlike Kinds may stand in any order, in sketches that are sound and in those that are not; an error has its place in each order, ErrMany, too.
func TestOrderOfKinds(t *testing.T) {
	c := chance(48)
	many := 0
	for i := range 5000 {
		s := c.spoilt()
		if i%2 == 0 {
			s = c.crowded()
		}
		if slices.ContainsFunc(s.Items, func(item api.Item) bool { return item.Kind == 0 || item.Kind > 4 }) {
			continue
		}
		g, f := graph.Build(s)
		if f.Code == api.ErrMany && len(crowds(s)) > 1 {
			many++
		}
		for range 3 {
			builds(t, c.turned(s), g, f)
		}
		if t.Failed() {
			return
		}
	}
	if many < 500 {
		t.Errorf("%d sketches only had too many of more than one Kind", many)
	}
}

// crowds are the Kinds of which a sketch has too many items.
func crowds(s api.Sketch) []api.ItemKind {
	var kinds []api.ItemKind
	for _, kind := range []api.ItemKind{api.ActorItem, api.EdgeItem, api.InItem, api.OutItem} {
		if len(ofKind(s, kind)) > most(kind) {
			kinds = append(kinds, kind)
		}
	}
	return kinds
}

// TestTooManyOfTwo is P8.2 and P8.4: of each two Kinds of which there are too many, the place is that of the one that P8.1 names first, whichever stands first, and however they are mixed.
func TestTooManyOfTwo(t *testing.T) {
	c := chance(27)
	kinds := []api.ItemKind{api.ActorItem, api.EdgeItem, api.InItem, api.OutItem}
	for i, first := range kinds {
		for _, second := range kinds[i+1:] {
			ahead := many(first, most(first)+3, 1000)
			behind := many(second, most(second)+3, 2000)
			alone := many(api.ActorItem, 1, 10)
			want := api.Fault{Code: api.ErrMany, At: 1000 + most(first)}
			if first == api.ActorItem {
				alone = nil
			}
			s := api.Sketch{Name: "g", Items: slices.Concat(alone, ahead, behind)}
			builds(t, s, api.Graph{}, want)
			builds(t, api.Sketch{Name: "g", Items: slices.Concat(behind, ahead, alone)}, api.Graph{}, want)
			for range 50 {
				builds(t, c.turned(s), api.Graph{}, want)
			}
		}
	}
}

// TestOneOnEachPort is P8.4: in a sound graph each in-port has just one edge or input on it, each out-port just one edge or output.
func TestOneOnEachPort(t *testing.T) {
	c := chance(4)
	sound := 0
	for range 20000 {
		g, f := graph.Build(c.spoilt())
		if f != (api.Fault{}) {
			continue
		}
		sound++
		m := &model{g: g}
		ins, outs := 0, 0
		for i, a := range g.Actors {
			takes, gives, _ := shape.Of(a.Tag, a.Params...)
			for port := range takes {
				if n := m.on(len(g.Edges), len(g.Ins), i, port, true); n != 1 {
					t.Fatalf("%v: %d on in-port %d.%d", g, n, i, port)
				}
			}
			for port := range gives {
				if n := m.on(len(g.Edges), len(g.Outs), i, port, false); n != 1 {
					t.Fatalf("%v: %d on out-port %d.%d", g, n, i, port)
				}
			}
			ins, outs = ins+len(takes), outs+len(gives)
		}
		if len(g.Edges)+len(g.Ins) != ins || len(g.Edges)+len(g.Outs) != outs {
			t.Fatalf("%v: %d in-ports, %d out-ports", g, ins, outs)
		}
	}
	if sound < 1000 {
		t.Errorf("%d sound graphs only", sound)
	}
}

const mark = 777

// roomy is a list with room behind it, which is marked.
func roomy(ns []int) []int {
	list := append(slices.Clone(ns), mark, mark, mark)
	return list[:len(ns)]
}

func roomLeft(ns []int) bool { return slices.Equal(ns[:len(ns)+3][len(ns):], []int{mark, mark, mark}) }

// scrawl writes into a list and into all the room behind it.
func scrawl[T any](list []T, with T) {
	list = list[:cap(list)]
	for i := range list {
		list[i] = with
	}
}

// scrawlGraph writes into all lists of a graph.
func scrawlGraph(g api.Graph) {
	for _, a := range g.Actors {
		scrawl(a.Params, 99)
	}
	for _, e := range g.Edges {
		scrawl(e.Start, 99)
	}
	scrawl(g.Actors, api.Actor{Name: "scrawl"})
	scrawl(g.Edges, api.Edge{From: 9})
	scrawl(g.Ins, api.Port{Name: "scrawl"})
	scrawl(g.Outs, api.Port{Name: "scrawl"})
}

// roomySketch is a sketch whose lists have room behind them.
func roomySketch(s api.Sketch) (sketch api.Sketch, behind []api.Item) {
	all := append(slices.Clone(s.Items), api.Item{Kind: 77}, api.Item{Kind: 78})
	for i := range s.Items {
		all[i].Nums = roomy(all[i].Nums)
	}
	return api.Sketch{Name: s.Name, Items: all[:len(s.Items)]}, all[len(s.Items):]
}

// TestBuildMemory is R2: Build leaves what is handed in, and the room behind it, and shares nothing with it nor with its other answers.
func TestBuildMemory(t *testing.T) {
	c := chance(22)
	for range 500 {
		plain := c.spoilt()
		s, behind := roomySketch(plain)
		want, fault := graph.Build(plain)
		g, f := graph.Build(s)
		other, _ := graph.Build(s)
		if f != fault || !same(g, want) {
			t.Fatalf("%v: %v %v, not %v %v", s, g, f, want, fault)
		}
		scrawlGraph(g)
		if !sameSketch(s, plain) || behind[0].Kind != 77 || behind[1].Kind != 78 {
			t.Fatalf("Build changed %v to %v", plain, s)
		}
		for _, item := range s.Items {
			if !roomLeft(item.Nums) {
				t.Fatalf("Build wrote behind %v", item)
			}
		}
		if !same(other, want) {
			t.Fatalf("two answers share memory: %v", other)
		}
	}
}

// roomyGraph is a graph whose lists have room behind them.
func roomyGraph(g api.Graph) api.Graph {
	g.Actors = append(slices.Clone(g.Actors), api.Actor{Name: "behind"})[:len(g.Actors)]
	g.Edges = append(slices.Clone(g.Edges), api.Edge{From: 55})[:len(g.Edges)]
	g.Ins = append(slices.Clone(g.Ins), api.Port{Name: "behind"})[:len(g.Ins)]
	g.Outs = append(slices.Clone(g.Outs), api.Port{Name: "behind"})[:len(g.Outs)]
	for i := range g.Actors {
		g.Actors[i].Params = roomy(g.Actors[i].Params)
	}
	for i := range g.Edges {
		g.Edges[i].Start = roomy(g.Edges[i].Start)
	}
	return g
}

// behindLeft tells whether the room behind a graph's lists is as roomyGraph made it.
func behindLeft(g api.Graph) bool {
	for _, a := range g.Actors {
		if !roomLeft(a.Params) {
			return false
		}
	}
	for _, e := range g.Edges {
		if !roomLeft(e.Start) {
			return false
		}
	}
	return g.Actors[:len(g.Actors)+1][len(g.Actors)].Name == "behind" && g.Edges[:len(g.Edges)+1][len(g.Edges)].From == 55 &&
		g.Ins[:len(g.Ins)+1][len(g.Ins)].Name == "behind" && g.Outs[:len(g.Outs)+1][len(g.Outs)].Name == "behind"
}

// TestDrawMemory is R2: Check and Draw leave what is handed in, and the room behind it; Draw shares nothing with it nor with its other answers.
func TestDrawMemory(t *testing.T) {
	c := chance(23)
	for range 500 {
		plain := read(c.sound(1 + c.below(6)))
		want, _ := graph.Draw(plain)
		g := roomyGraph(plain)
		checks(t, g, api.OK)
		s, _ := graph.Draw(g)
		other, _ := graph.Draw(g)
		if !sameSketch(s, want) {
			t.Fatalf("%v: %v, not %v", g, s, want)
		}
		for _, item := range s.Items {
			scrawl(item.Nums, 99)
		}
		scrawl(s.Items, api.Item{Name: "scrawl"})
		if !same(g, plain) || !behindLeft(g) {
			t.Fatalf("Draw changed %v to %v", plain, g)
		}
		if !sameSketch(other, want) {
			t.Fatalf("two answers share memory: %v", other)
		}
	}
}

// TestListsApart is R2: lists within one answer share no memory, not even where what was handed in did.
func TestListsApart(t *testing.T) {
	shared := []int{3}
	s := parsed(t, "graph g { actor a = filter 3; actor b = filter 3; edge a.0 -> b.0 with 3; edge b.0 -> a.0 with 3; }")
	for i := range s.Items {
		s.Items[i].Nums = shared
	}
	g, f := graph.Build(s)
	drawn, e := graph.Draw(g)
	if f != (api.Fault{}) || e != api.OK {
		t.Fatal(f, e)
	}
	lists := [][]int{g.Actors[0].Params, g.Actors[1].Params, g.Edges[0].Start, g.Edges[1].Start}
	for _, item := range drawn.Items {
		lists = append(lists, item.Nums)
	}
	for i, list := range lists {
		scrawl(list, 100+i)
	}
	for i, list := range lists {
		if list[0] != 100+i {
			t.Errorf("list %d shares memory", i)
		}
	}
	if shared[0] != 3 {
		t.Error("what was handed in is shared")
	}
}
