package graph_test

import (
	"reflect"
	"slices"
	"strconv"
	"strings"
	"testing"

	"pianola/api"
	"pianola/graph"
	"pianola/sketch"
)

// parsed is what a text says.
func parsed(t *testing.T, text string) api.Sketch {
	t.Helper()
	s, f := sketch.Parse(text)
	if f != (api.Fault{}) {
		t.Fatalf("Parse(%q): %v at %d", text, f.Code, f.At)
	}
	return s
}

func sameNums(a, b []int) bool { return slices.Equal(a, b) }

func sameActor(a, b api.Actor) bool {
	return a.Name == b.Name && a.Tag == b.Tag && sameNums(a.Params, b.Params)
}

func sameEdge(a, b api.Edge) bool {
	return a.From == b.From && a.FromPort == b.FromPort && a.To == b.To && a.ToPort == b.ToPort && sameNums(a.Start, b.Start)
}

func same(a, b api.Graph) bool {
	return a.Name == b.Name && slices.EqualFunc(a.Actors, b.Actors, sameActor) && slices.EqualFunc(a.Edges, b.Edges, sameEdge) &&
		slices.Equal(a.Ins, b.Ins) && slices.Equal(a.Outs, b.Outs)
}

func sameItem(a, b api.Item) bool {
	nums := sameNums(a.Nums, b.Nums)
	a.Nums, b.Nums = nil, nil
	return nums && reflect.DeepEqual(a, b)
}

func sameSketch(a, b api.Sketch) bool {
	return a.Name == b.Name && slices.EqualFunc(a.Items, b.Items, sameItem)
}

// builds fails, unless Build answers this; of a graph also, unless Check finds it sound.
func builds(t *testing.T, s api.Sketch, want api.Graph, fault api.Fault) {
	t.Helper()
	g, f := graph.Build(s)
	if f != fault {
		t.Errorf("Build(%.300v): %v at %d, not %v at %d", s, f.Code, f.At, fault.Code, fault.At)
	}
	if !same(g, want) {
		t.Errorf("Build(%.300v): %v, not %v", s, g, want)
	}
	if e := graph.Check(g); f.Code == api.OK && e != api.OK {
		t.Errorf("Build(%.300v) is not sound: %v", s, e)
	}
}

// checks fails, unless Check finds this in a graph, and Draw, where it is an error, tells it with nothing beside it.
func checks(t *testing.T, g api.Graph, want api.Errno) {
	t.Helper()
	if e := graph.Check(g); e != want {
		t.Errorf("Check(%.300v): %v, not %v", g, e, want)
	}
	s, e := graph.Draw(g)
	if e != want || want != api.OK && (s.Name != "" || len(s.Items) != 0) {
		t.Errorf("Draw(%.300v): %v %v, not %v", g, s, e, want)
	}
}

// refuses fails, unless a text is read, and its sketch refused so.
func refuses(t *testing.T, text string, e api.Errno, at int) {
	t.Helper()
	builds(t, parsed(t, text), api.Graph{}, api.Fault{Code: e, At: at})
}

// TestExamples is P8.1 and P8.2: the chapter's examples.
func TestExamples(t *testing.T) {
	builds(t, parsed(t, "graph g { actor a = up 2; in x -> a.0; out a.0 -> y; }"), api.Graph{
		Name:   "g",
		Actors: []api.Actor{{Name: "a", Tag: api.Up, Params: []int{2}}},
		Ins:    []api.Port{{Name: "x"}},
		Outs:   []api.Port{{Name: "y"}},
	}, api.Fault{})
	builds(t, parsed(t, "graph g { actor a = sum; edge a.0 -> a.0 with 5; }"), api.Graph{
		Name:   "g",
		Actors: []api.Actor{{Name: "a", Tag: api.Sum}},
		Edges:  []api.Edge{{Start: []int{5}}},
	}, api.Fault{})
	refuses(t, "graph g {}", api.ErrEmpty, 0)
	refuses(t, "graph g { actor a = up; }", api.ErrParams, 10)
	refuses(t, "graph g { actor a = no; }", api.ErrTag, 10)
	refuses(t, "graph g { actor a = sum; actor a = no; }", api.ErrTwice, 25)
	refuses(t, "graph g { edge b.0 -> a.0; actor a = sum; }", api.ErrActor, 15)
	refuses(t, "graph g { actor a = sum; edge a.0 -> a.1; }", api.ErrPort, 37)
	refuses(t, "graph g { actor a = sum; edge a.0 -> a.0; in x -> a.0; }", api.ErrTaken, 50)
	refuses(t, "graph g { actor a = sum; in a -> a.0; }", api.ErrTwice, 25)
	refuses(t, "graph g { actor a = sum; in x -> a.0; }", api.ErrOpen, 10)
	refuses(t, "graph g { actor a = sum; in x -> a.0; out a.0 -> x; }", api.ErrTwice, 38)
}

// base is a graph that is sound, with all that the faults below need.
const base = "graph g { actor a = weave 2 1; actor b = copy 3; actor c = drop 1; edge a.0 -> b.0 with 1 2; edge b.0 -> c.0; in x -> a.0; in z -> a.1; out b.1 -> y; out b.2 -> w; }"

func based(t *testing.T) api.Graph {
	t.Helper()
	g, f := graph.Build(parsed(t, base))
	if f != (api.Fault{}) || graph.Check(g) != api.OK {
		t.Fatal(g, f)
	}
	return g
}

// fault makes a graph wrong in one way.
type fault struct {
	code api.Errno
	make func(g *api.Graph)
}

// faults stand in the order of P8.1. Each of them holds whatever those behind it have done.
var faults = []fault{
	{api.ErrName, func(g *api.Graph) { g.Name = "g-" }},
	{api.ErrEmpty, func(g *api.Graph) { g.Actors = nil }},
	{api.ErrMany, func(g *api.Graph) { g.Actors = slices.Repeat(g.Actors[:1], 33) }},
	{api.ErrMany, func(g *api.Graph) { g.Edges = slices.Repeat(g.Edges[:1], 97) }},
	{api.ErrMany, func(g *api.Graph) { g.Ins = slices.Repeat(g.Ins[:1], 17) }},
	{api.ErrMany, func(g *api.Graph) { g.Outs = slices.Repeat(g.Outs[:1], 17) }},
	{api.ErrName, func(g *api.Graph) { g.Actors[0].Name = "" }},
	{api.ErrTag, func(g *api.Graph) { g.Actors[0].Tag = 0 }},
	{api.ErrParams, func(g *api.Graph) { g.Actors[0].Params = []int{2, 65} }},
	{api.ErrName, func(g *api.Graph) { g.Actors[1].Name = "B" }},
	{api.ErrTwice, func(g *api.Graph) { g.Actors[1].Name = g.Actors[0].Name }},
	{api.ErrTag, func(g *api.Graph) { g.Actors[1].Tag = 12 }},
	{api.ErrParams, func(g *api.Graph) { g.Actors[1].Params = nil }},
	{api.ErrTwice, func(g *api.Graph) { g.Actors[2].Name = "a" }},
	{api.ErrParams, func(g *api.Graph) { g.Actors[2].Params = []int{0} }},
	{api.ErrActor, func(g *api.Graph) { g.Edges[0].From = -1 }},
	{api.ErrPort, func(g *api.Graph) { g.Edges[0].FromPort = 1 }},
	{api.ErrActor, func(g *api.Graph) { g.Edges[0].To = 3 }},
	{api.ErrPort, func(g *api.Graph) { g.Edges[0].ToPort = -1 }},
	{api.ErrStart, func(g *api.Graph) { g.Edges[0].Start = make([]int, 257) }},
	{api.ErrActor, func(g *api.Graph) { g.Edges[1].From = least }},
	{api.ErrPort, func(g *api.Graph) { g.Edges[1].FromPort = greatest }},
	{api.ErrTaken, func(g *api.Graph) { g.Edges[1].From, g.Edges[1].FromPort = 0, 0 }},
	{api.ErrActor, func(g *api.Graph) { g.Edges[1].To = greatest }},
	{api.ErrPort, func(g *api.Graph) { g.Edges[1].ToPort = least }},
	{api.ErrTaken, func(g *api.Graph) { g.Edges[1].To, g.Edges[1].ToPort = 1, 0 }},
	{api.ErrStart, func(g *api.Graph) { g.Edges[1].Start = make([]int, 258) }},
	{api.ErrName, func(g *api.Graph) { g.Ins[0].Name = "1" }},
	{api.ErrTwice, func(g *api.Graph) { g.Ins[0].Name = "c" }},
	{api.ErrActor, func(g *api.Graph) { g.Ins[0].Actor = 3 }},
	{api.ErrPort, func(g *api.Graph) { g.Ins[0].Port = 16 }},
	{api.ErrTaken, func(g *api.Graph) { g.Ins[0].Actor, g.Ins[0].Port = 2, 0 }},
	{api.ErrName, func(g *api.Graph) { g.Ins[1].Name = "Z" }},
	{api.ErrTwice, func(g *api.Graph) { g.Ins[1].Name = "x" }},
	{api.ErrActor, func(g *api.Graph) { g.Ins[1].Actor = -1 }},
	{api.ErrPort, func(g *api.Graph) { g.Ins[1].Port = -1 }},
	{api.ErrTaken, func(g *api.Graph) { g.Ins[1].Actor, g.Ins[1].Port = 0, 0 }},
	{api.ErrName, func(g *api.Graph) { g.Outs[0].Name = "_" }},
	{api.ErrTwice, func(g *api.Graph) { g.Outs[0].Name = "a" }},
	{api.ErrActor, func(g *api.Graph) { g.Outs[0].Actor = 3 }},
	{api.ErrPort, func(g *api.Graph) { g.Outs[0].Actor, g.Outs[0].Port = 2, 0 }},
	{api.ErrTaken, func(g *api.Graph) { g.Outs[0].Actor, g.Outs[0].Port = 0, 0 }},
	{api.ErrName, func(g *api.Graph) { g.Outs[1].Name = "" }},
	{api.ErrTwice, func(g *api.Graph) { g.Outs[1].Name = "x" }},
	{api.ErrTwice, func(g *api.Graph) { g.Outs[1].Name = "y" }},
	{api.ErrActor, func(g *api.Graph) { g.Outs[1].Actor = -1 }},
	{api.ErrPort, func(g *api.Graph) { g.Outs[1].Port = 16 }},
	{api.ErrTaken, func(g *api.Graph) { g.Outs[1].Actor, g.Outs[1].Port = 1, 1 }},
	{api.ErrOpen, func(g *api.Graph) { g.Actors[0].Params = []int{3, 1} }},
	{api.ErrOpen, func(g *api.Graph) { g.Actors[1].Params = []int{4} }},
	{api.ErrOpen, func(g *api.Graph) { g.Outs = g.Outs[:1] }},
	{api.ErrOpen, func(g *api.Graph) { g.Ins = g.Ins[:1] }},
	{api.ErrOpen, func(g *api.Graph) { g.Ins, g.Outs = nil, nil }},
}

// makeFault makes a graph wrong, if the input or output that the fault needs is still there.
func makeFault(f fault, g *api.Graph) (made bool) {
	defer func() { made = recover() == nil }()
	f.make(g)
	return
}

// TestCheckOrder is P8.1: each fault by itself, and of each two of them the first one of the order.
func TestCheckOrder(t *testing.T) {
	checks(t, based(t), api.OK)
	for i, first := range faults {
		g := based(t)
		first.make(&g)
		checks(t, g, first.code)
		for j, second := range faults[i+1:] {
			g := based(t)
			second.make(&g)
			if !makeFault(first, &g) {
				continue
			}
			if e := graph.Check(g); e != first.code {
				t.Errorf("faults %d and %d: %v, not %v", i, i+1+j, e, first.code)
			}
		}
	}
}

// row is n actors one behind the other, with an edge between each two.
func row(n int) api.Graph {
	g := api.Graph{Name: "g", Ins: []api.Port{{Name: "x"}}, Outs: []api.Port{{Name: "y", Actor: n - 1}}}
	for i := range n {
		g.Actors = append(g.Actors, api.Actor{Name: "a" + strconv.Itoa(i), Tag: api.Sum})
		if i > 0 {
			g.Edges = append(g.Edges, api.Edge{From: i - 1, To: i})
		}
	}
	return g
}

// bundle is n edges, in sixteens between actors that unweave and actors that weave.
func bundle(n int) api.Graph {
	g := api.Graph{Name: "g"}
	for i := range n {
		k := i / 16
		if i%16 == 0 {
			width := min(16, n-i)
			g.Actors = append(g.Actors, api.Actor{Name: "u" + strconv.Itoa(k), Tag: api.Unweave, Params: []int{width, 1}})
			g.Actors = append(g.Actors, api.Actor{Name: "w" + strconv.Itoa(k), Tag: api.Weave, Params: []int{width, 1}})
			g.Ins = append(g.Ins, api.Port{Name: "x" + strconv.Itoa(k), Actor: 2 * k})
			g.Outs = append(g.Outs, api.Port{Name: "y" + strconv.Itoa(k), Actor: 2*k + 1})
		}
		g.Edges = append(g.Edges, api.Edge{From: 2 * k, FromPort: i % 16, To: 2*k + 1, ToPort: i % 16})
	}
	return g
}

// fan has so many inputs, and so many outputs, on two actors a side.
func fan(ins, outs int) api.Graph {
	g := api.Graph{Name: "g", Actors: []api.Actor{
		{Name: "a", Tag: api.Add, Params: []int{ins - 1}},
		{Name: "b", Tag: api.Add, Params: []int{2}},
		{Name: "c", Tag: api.Copy, Params: []int{2}},
		{Name: "d", Tag: api.Copy, Params: []int{outs - 1}},
	}}
	g.Edges = []api.Edge{{From: 0, To: 1}, {From: 1, To: 2}, {From: 2, To: 3}}
	for i := range ins - 1 {
		g.Ins = append(g.Ins, api.Port{Name: "x" + strconv.Itoa(i), Port: i})
	}
	g.Ins = append(g.Ins, api.Port{Name: "x", Actor: 1, Port: 1})
	for i := range outs - 1 {
		g.Outs = append(g.Outs, api.Port{Name: "y" + strconv.Itoa(i), Actor: 3, Port: i})
	}
	g.Outs = append(g.Outs, api.Port{Name: "y", Actor: 2, Port: 1})
	return g
}

// TestCheckBounds is P8.1: as many as may be are sound, one more is not.
func TestCheckBounds(t *testing.T) {
	checks(t, row(1), api.OK)
	checks(t, row(32), api.OK)
	checks(t, row(33), api.ErrMany)
	checks(t, bundle(96), api.OK)
	checks(t, bundle(97), api.ErrMany)
	checks(t, fan(16, 16), api.OK)
	checks(t, fan(17, 16), api.ErrMany)
	checks(t, fan(16, 17), api.ErrMany)
	g := row(2)
	g.Edges[0].Start = slices.Repeat([]int{least, greatest}, 128)
	checks(t, g, api.OK)
	g.Edges[0].Start = append(g.Edges[0].Start, 0)
	checks(t, g, api.ErrStart)
	checks(t, api.Graph{}, api.ErrName)
	checks(t, api.Graph{Name: "g"}, api.ErrEmpty)
	checks(t, api.Graph{Name: "g", Edges: make([]api.Edge, 97), Ins: make([]api.Port, 17), Outs: make([]api.Port, 17)}, api.ErrEmpty)
}

// TestCheckNames is P8.1: which names may be, of the graph and of what is in it; the graph's own name counts for nothing else.
func TestCheckNames(t *testing.T) {
	turns := []func(g *api.Graph, name string){
		func(g *api.Graph, name string) { g.Name = name },
		func(g *api.Graph, name string) { g.Actors[1].Name = name },
		func(g *api.Graph, name string) { g.Ins[1].Name = name },
		func(g *api.Graph, name string) { g.Outs[1].Name = name },
	}
	for _, turn := range turns {
		for _, name := range []string{"g", "graph", "out", "q_1", "abcdefghijklmnop"} {
			g := based(t)
			turn(&g, name)
			checks(t, g, api.OK)
		}
		for _, name := range []string{"", "G", "1a", "_a", "a b", "a\n", "a.0", "\xff", "abcdefghijklmnopq"} {
			g := based(t)
			turn(&g, name)
			checks(t, g, api.ErrName)
		}
	}
	g := based(t)
	g.Name = "a"
	checks(t, g, api.OK)
}

// TestCheckPlaces is P8.1: numbers of actors and of ports at their ends and far beyond.
func TestCheckPlaces(t *testing.T) {
	ends := []struct {
		actor, port func(g *api.Graph) *int
		actors      []int // those that have no such port, besides those that are none
		ports       int
	}{
		{func(g *api.Graph) *int { return &g.Edges[0].From }, func(g *api.Graph) *int { return &g.Edges[0].FromPort }, []int{2}, 1},
		{func(g *api.Graph) *int { return &g.Edges[1].To }, func(g *api.Graph) *int { return &g.Edges[1].ToPort }, nil, 1},
		{func(g *api.Graph) *int { return &g.Ins[1].Actor }, func(g *api.Graph) *int { return &g.Ins[1].Port }, []int{1, 2}, 2},
		{func(g *api.Graph) *int { return &g.Outs[1].Actor }, func(g *api.Graph) *int { return &g.Outs[1].Port }, []int{0, 2}, 3},
	}
	for _, end := range ends {
		for _, actor := range []int{least, least + 1, -3, -2, -1, 3, 4, 255, 256, 1 << 32, greatest} {
			g := based(t)
			*end.actor(&g) = actor
			checks(t, g, api.ErrActor)
			*end.port(&g) = -1
			checks(t, g, api.ErrActor)
		}
		for _, port := range []int{least, least + 1, -2, -1, end.ports, end.ports + 1, 255, 256, 1 << 32, greatest} {
			g := based(t)
			*end.port(&g) = port
			checks(t, g, api.ErrPort)
		}
		for _, actor := range end.actors {
			g := based(t)
			*end.actor(&g) = actor
			checks(t, g, api.ErrPort)
		}
	}
}

// TestCheckMany is P8.1: against the model, at many graphs that have some things wrong.
func TestCheckMany(t *testing.T) {
	c := chance(20261116)
	seen := map[api.Errno]int{}
	for range 60000 {
		s := c.spoilt()
		if slices.ContainsFunc(s.Items, func(item api.Item) bool { return item.Kind == 0 || item.Kind > 4 }) {
			continue
		}
		g := read(s)
		want := expected(g).code
		seen[want]++
		if e := graph.Check(g); e != want {
			t.Fatalf("Check(%v): %v, not %v", g, e, want)
		}
	}
	for _, e := range []api.Errno{api.OK, api.ErrTag, api.ErrParams, api.ErrEmpty, api.ErrName, api.ErrTwice, api.ErrActor, api.ErrPort, api.ErrTaken, api.ErrOpen, api.ErrStart} {
		if seen[e] < 20 {
			t.Errorf("%v came %d times only", e, seen[e])
		}
	}
}

// TestBuildMany is P8.2: against the model, at many sketches that have some things wrong, and at sound ones.
func TestBuildMany(t *testing.T) {
	c := chance(8)
	for i := range 60000 {
		s := c.spoilt()
		if i%30 == 0 {
			s = c.crowded()
		}
		want, fault := expectedBuild(s)
		builds(t, s, want, fault)
		if t.Failed() {
			return
		}
	}
}

// TestBuildPlaces is P8.2: the table of places, row by row.
func TestBuildPlaces(t *testing.T) {
	builds(t, api.Sketch{Name: "G", Items: []api.Item{{Kind: api.ActorItem, At: 5}}}, api.Graph{}, api.Fault{Code: api.ErrName})
	builds(t, api.Sketch{Name: "g", Items: []api.Item{{Kind: api.EdgeItem, At: 5}}}, api.Graph{}, api.Fault{Code: api.ErrEmpty})
	builds(t, api.Sketch{Name: "g", Items: []api.Item{{Kind: api.ActorItem, Name: "", Tag: "no", At: 5}}}, api.Graph{}, api.Fault{Code: api.ErrName, At: 5})
	refuses(t, "graph g { actor b = sum; actor a = no; }", api.ErrTag, 25)
	refuses(t, "graph g { actor b = sum; actor a = sum 1; }", api.ErrParams, 25)
	refuses(t, "graph g { actor a = sum; actor a = sum 1; }", api.ErrTwice, 25)
	refuses(t, "graph g { actor a = sum; edge b.0 -> c.0; }", api.ErrActor, 30)
	refuses(t, "graph g { actor a = sum; edge a.0 -> c.0; }", api.ErrActor, 37)
	refuses(t, "graph g { actor a = sum; edge a.1 -> c.0; }", api.ErrPort, 30)
	refuses(t, "graph g { actor a = sum; edge a.-1 -> c.0; }", api.ErrPort, 30)
	refuses(t, "graph g { actor a = sum; edge a.0 -> a.-1; }", api.ErrPort, 37)
	refuses(t, "graph g { actor a = sum; edge a.0 -> a.0; edge a.0 -> a.0; }", api.ErrTaken, 47)
	refuses(t, "graph g { actor a = quot; edge a.0 -> a.0; actor b = sum; edge b.0 -> a.0; }", api.ErrTaken, 70)
	refuses(t, "graph g { actor a = sum; in x -> b.0; }", api.ErrActor, 33)
	refuses(t, "graph g { actor a = sum; in x -> a.1; }", api.ErrPort, 33)
	refuses(t, "graph g { actor a = sum; in x -> a.0; in y -> a.0; }", api.ErrTaken, 46)
	refuses(t, "graph g { actor a = sum; in x -> a.0; in x -> a.0; }", api.ErrTwice, 38)
	refuses(t, "graph g { actor a = sum; out b.0 -> y; }", api.ErrActor, 29)
	refuses(t, "graph g { actor a = sum; out a.1 -> y; }", api.ErrPort, 29)
	refuses(t, "graph g { actor a = sum; out a.0 -> y; out a.0 -> z; }", api.ErrTaken, 43)
	refuses(t, "graph g { actor a = sum; edge a.0 -> a.0; out a.0 -> z; }", api.ErrTaken, 46)
	refuses(t, "graph g { actor a = sum; out a.0 -> y; out a.0 -> y; }", api.ErrTwice, 39)
	refuses(t, "graph g { actor a = sum; out a.0 -> a; }", api.ErrTwice, 25)
	refuses(t, "graph g { actor a = sum; edge a.0 -> a.0 with"+strings.Repeat(" 1", 257)+"; }", api.ErrStart, 25)
	refuses(t, "graph g { in x -> a.0; actor a = sum; actor b = sum; }", api.ErrOpen, 23)
	refuses(t, "graph g { in x -> a.0; actor a = sum; out a.0 -> y; actor b = sum; actor c = sum; }", api.ErrOpen, 52)
	for _, kind := range []api.ItemKind{api.InItem, api.OutItem} {
		s := parsed(t, "graph g { actor a = sum; in x -> a.0; out a.0 -> y; }")
		for i := range s.Items {
			if s.Items[i].Kind == kind {
				s.Items[i].Name = "Q"
				builds(t, s, api.Graph{}, api.Fault{Code: api.ErrName, At: s.Items[i].At})
			}
		}
	}
}

// most is how many items of a Kind there may be.
func most(kind api.ItemKind) int { return []int{0, 32, 96, 16, 16}[kind] }

// many is n items of a Kind, with the places at, at + 1 and so on.
func many(kind api.ItemKind, n, at int) []api.Item {
	items := make([]api.Item, n)
	for i := range items {
		items[i] = api.Item{Kind: kind, At: at + i}
	}
	return items
}

// TestBuildTooMany is P8.2: ErrMany's place is that of the first item that is one too many of its Kind, whichever Kind it is; of several such Kinds it is the one that P8.1 names first.
func TestBuildTooMany(t *testing.T) {
	first := many(api.ActorItem, 1, 5)
	for _, kind := range []api.ItemKind{api.ActorItem, api.EdgeItem, api.InItem, api.OutItem} {
		room := most(kind)
		if kind == api.ActorItem {
			room--
		}
		for _, more := range []int{1, 2, 50} {
			s := api.Sketch{Name: "g", Items: append(slices.Clone(first), many(kind, room+more, 1000)...)}
			builds(t, s, api.Graph{}, api.Fault{Code: api.ErrMany, At: 1000 + room})
		}
		s := api.Sketch{Name: "g", Items: append(slices.Clone(first), many(kind, room, 1000)...)}
		if _, f := graph.Build(s); f.Code == api.ErrMany {
			t.Errorf("%d of Kind %d are too many", most(kind), kind)
		}
		s.Name = ""
		builds(t, s, api.Graph{}, api.Fault{Code: api.ErrName})
	}
	all := slices.Concat(many(api.OutItem, 17, 100), many(api.InItem, 17, 200), many(api.EdgeItem, 97, 300), many(api.ActorItem, 33, 400))
	for _, at := range []int{432, 396, 216, 116} {
		builds(t, api.Sketch{Name: "g", Items: all}, api.Graph{}, api.Fault{Code: api.ErrMany, At: at})
		all = slices.DeleteFunc(all, func(item api.Item) bool { return item.At == at })
	}
	builds(t, api.Sketch{Name: "g", Items: many(api.InItem, 17, 4)}, api.Graph{}, api.Fault{Code: api.ErrEmpty})
}

// TestBuildKinds is P8.2: a Kind that is none of the four comes ahead of all else, with the place of the first such item.
func TestBuildKinds(t *testing.T) {
	for _, kind := range []api.ItemKind{0, 5, 6, 127, 128, 255} {
		s := parsed(t, base)
		s.Items[4].Kind, s.Items[6].Kind = kind, 9
		builds(t, s, api.Graph{}, api.Fault{Code: api.ErrArg, At: s.Items[4].At})
		s.Items[0].Name, s.Items[1].Tag, s.Name = "", "no", ""
		builds(t, s, api.Graph{}, api.Fault{Code: api.ErrArg, At: s.Items[4].At})
		builds(t, api.Sketch{Items: append(many(api.InItem, 40, 0), many(kind, 1, -77)...)}, api.Graph{}, api.Fault{Code: api.ErrArg, At: -77})
	}
}

// TestBuildUnseen is P8.2: what a Kind does not have is not looked at.
func TestBuildUnseen(t *testing.T) {
	s := parsed(t, base)
	want, f := graph.Build(s)
	if f != (api.Fault{}) {
		t.Fatal(f)
	}
	odd := api.Place{Name: "nobody", Port: -5, At: 3}
	for i := range s.Items {
		item := &s.Items[i]
		switch item.Kind {
		case api.ActorItem:
			item.From, item.To = odd, odd
		case api.EdgeItem:
			item.Name, item.Tag = "A", "no"
		case api.InItem:
			item.Tag, item.Nums, item.From = "no", make([]int, 1000), odd
		case api.OutItem:
			item.Tag, item.Nums, item.To = "no", make([]int, 1000), odd
		}
	}
	builds(t, s, want, api.Fault{})
}

// TestBuildShared is P8.2: a list of numbers that many items share, and that is far too long, is told apart without being copied for each of them.
func TestBuildShared(t *testing.T) {
	long := make([]int, 1<<24)
	s := parsed(t, "graph g { actor a = sum; }")
	for i := range 2000 {
		s.Items = append(s.Items, api.Item{Kind: api.EdgeItem, Nums: long, At: 100 + i})
	}
	want := api.Fault{Code: api.ErrMany, At: 196}
	if g, f := graph.Build(s); f != want || !same(g, api.Graph{}) { // not by builds, which would print the lists
		t.Errorf("%v at %d, not %v at %d", f.Code, f.At, want.Code, want.At)
	}
}

// TestDraw is P8.3: the items of a sound graph, each with what its Kind has and nothing else.
func TestDraw(t *testing.T) {
	text := "graph g { out b.0 -> y; actor a = weave 2 1; edge a.0 -> b.0 with 7 -8; in z -> a.1; in x -> a.0; actor b = up 2; edge c.0 -> d.0; actor c = tick 1 2; actor d = drop 1; }"
	g, f := graph.Build(parsed(t, text))
	s, e := graph.Draw(g)
	want := api.Sketch{Name: "g", Items: []api.Item{
		{Kind: api.ActorItem, Name: "a", Tag: "weave", Nums: []int{2, 1}},
		{Kind: api.ActorItem, Name: "b", Tag: "up", Nums: []int{2}},
		{Kind: api.ActorItem, Name: "c", Tag: "tick", Nums: []int{1, 2}},
		{Kind: api.ActorItem, Name: "d", Tag: "drop", Nums: []int{1}},
		{Kind: api.EdgeItem, From: api.Place{Name: "a"}, To: api.Place{Name: "b"}, Nums: []int{7, -8}},
		{Kind: api.EdgeItem, From: api.Place{Name: "c"}, To: api.Place{Name: "d"}},
		{Kind: api.InItem, Name: "z", To: api.Place{Name: "a", Port: 1}},
		{Kind: api.InItem, Name: "x", To: api.Place{Name: "a"}},
		{Kind: api.OutItem, Name: "y", From: api.Place{Name: "b"}},
	}}
	if f != (api.Fault{}) || e != api.OK || !sameSketch(s, want) {
		t.Errorf("%v %v %v", f, e, s)
	}
}
