package source_test

import (
	"errors"
	"fmt"
	"slices"
	"strings"
	"testing"

	"pianola/api"
	"pianola/graph"
	"pianola/sketch"
	"pianola/source"
)

// short is the beginning of a text, for telling it.
func short(text string) string { return text[:min(len(text), 400)] }

func told(g api.Graph) string { return short(fmt.Sprint(g)) }

// noughts tells whether a graph has nothing.
func noughts(g api.Graph) bool {
	return g.Name == "" && g.Actors == nil && g.Edges == nil && g.Ins == nil && g.Outs == nil
}

// reads fails, unless a text is read as this graph, with nil itself.
func reads(t *testing.T, text string, want api.Graph) {
	t.Helper()
	g, err := source.Parse(text)
	if err != nil {
		t.Errorf("Parse(%q): %#v", short(text), err)
	}
	if !same(g, want) {
		t.Errorf("Parse(%q): %s, not %s", short(text), told(g), told(want))
	}
}

// refuses fails, unless a text is refused by this Fault itself, with a graph of noughts beside it.
func refuses(t *testing.T, text string, code api.Errno, at int) {
	t.Helper()
	g, err := source.Parse(text)
	want := api.Fault{Code: code, At: at}
	if f, is := err.(api.Fault); !is || f != want {
		t.Errorf("Parse(%q): %#v, not %#v", short(text), err, want)
	}
	var f api.Fault
	if !errors.As(err, &f) || f != want || !errors.Is(err, want) || !errors.Is(err, code) {
		t.Errorf("Parse(%q): %#v is not asked as %#v", short(text), err, want)
	}
	if !noughts(g) {
		t.Errorf("Parse(%q): %v beside an error", short(text), g)
	}
}

// prints fails, unless a graph has this text, with nil itself.
func prints(t *testing.T, g api.Graph, want string) {
	t.Helper()
	text, err := source.Print(g)
	if err != nil {
		t.Errorf("Print(%s): %#v", told(g), err)
	}
	if text != want {
		t.Errorf("Print(%s): %q, not %q", told(g), short(text), short(want))
	}
}

// unprinted fails, unless a graph is refused by this Errno itself, with no text beside it.
func unprinted(t *testing.T, g api.Graph, want api.Errno) {
	t.Helper()
	text, err := source.Print(g)
	if e, is := err.(api.Errno); !is || e != want || !errors.Is(err, want) {
		t.Errorf("Print(%s): %#v, not %#v", told(g), err, want)
	}
	if text != "" {
		t.Errorf("Print(%s): %q beside an error", told(g), short(text))
	}
}

// TestExamples is P9.1 and P9.2: the chapter's examples.
func TestExamples(t *testing.T) {
	g := api.Graph{
		Name:   "g",
		Actors: []api.Actor{{Name: "a", Tag: api.Up, Params: []int{2}}},
		Ins:    []api.Port{{Name: "x"}},
		Outs:   []api.Port{{Name: "y"}},
	}
	reads(t, "graph g { in x -> a.0; out a.0 -> y; actor a = up 2 ; }", g)
	prints(t, g, "graph g {\n  actor a = up 2;\n  in x -> a.0;\n  out a.0 -> y;\n}\n")
	refuses(t, "graph g { actor a = up 2 }", api.ErrToken, 25)
	refuses(t, "graph g { actor a = up 0; }", api.ErrParams, 10)
	refuses(t, "graph g { actor a = up 01; }", api.ErrNumber, 23)
	unprinted(t, api.Graph{Name: "g"}, api.ErrEmpty)
	unprinted(t, api.Graph{Name: "G"}, api.ErrName)
}

// TestParseKinds is P9.1: a graph that has all kinds of items, with every field that an item has.
func TestParseKinds(t *testing.T) {
	reads(t, "graph h{out c.1->y;edge b.0->c.0 with -1 2;in x->b.1;actor b=weave 2 3;actor d=drop 3;in z->b.0;actor c=unweave 2 3;edge c.0->d.0;}", api.Graph{
		Name: "h",
		Actors: []api.Actor{
			{Name: "b", Tag: api.Weave, Params: []int{2, 3}},
			{Name: "d", Tag: api.Drop, Params: []int{3}},
			{Name: "c", Tag: api.Unweave, Params: []int{2, 3}},
		},
		Edges: []api.Edge{{From: 0, FromPort: 0, To: 2, ToPort: 0, Start: []int{-1, 2}}, {From: 2, FromPort: 0, To: 1, ToPort: 0}},
		Ins:   []api.Port{{Name: "x", Actor: 0, Port: 1}, {Name: "z", Actor: 0, Port: 0}},
		Outs:  []api.Port{{Name: "y", Actor: 2, Port: 1}},
	})
	reads(t, "graph g { actor a = sum; edge a.0 -> a.0 with 5; }", api.Graph{
		Name: "g", Actors: []api.Actor{{Name: "a", Tag: api.Sum}}, Edges: []api.Edge{{Start: []int{5}}},
	})
	reads(t, "graph g { actor a = tick -9223372036854775808 9223372036854775807; out a.0 -> y; }", api.Graph{
		Name: "g", Actors: []api.Actor{{Name: "a", Tag: api.Tick, Params: []int{least, greatest}}}, Outs: []api.Port{{Name: "y"}},
	})
}

// TestSketchRefuses is P9.1: what sketch.Parse refuses, each error with its place.
func TestSketchRefuses(t *testing.T) {
	right := "graph g { actor a = sum; edge a.0 -> a.0; }"
	refuses(t, "", api.ErrToken, 0)
	refuses(t, " \n", api.ErrToken, 2)
	refuses(t, "graph", api.ErrToken, 5)
	refuses(t, "edge g {}", api.ErrToken, 0)
	refuses(t, right+" }", api.ErrToken, 44)
	refuses(t, right[:42], api.ErrToken, 42)
	refuses(t, right+"@", api.ErrByte, 43)
	refuses(t, "@", api.ErrByte, 0)
	refuses(t, right+"-0", api.ErrNumber, 43)
	refuses(t, "graph g { actor a = up 9223372036854775808; }", api.ErrNumber, 23)
	refuses(t, "graph abcdefghijklmnopq { }", api.ErrWord, 6)
	refuses(t, right+strings.Repeat(" ", api.MaxText-len(right)+1), api.ErrLong, api.MaxText)
	refuses(t, strings.Repeat("@", api.MaxText+2), api.ErrLong, api.MaxText)
	reads(t, right+strings.Repeat(" ", api.MaxText-len(right)), api.Graph{
		Name: "g", Actors: []api.Actor{{Name: "a", Tag: api.Sum}}, Edges: []api.Edge{{}},
	})
}

// TestGraphRefuses is P9.1: what sketch.Parse reads, and graph.Build refuses, each error with its place; those at 0, too, are errors.
func TestGraphRefuses(t *testing.T) {
	refuses(t, "graph g {}", api.ErrEmpty, 0)
	refuses(t, "# no actor\n graph g { in x -> a.0; }", api.ErrEmpty, 0)
	refuses(t, "graph g { actor b = sum; actor a = no; }", api.ErrTag, 25)
	refuses(t, "graph g { actor a = up; }", api.ErrParams, 10)
	refuses(t, "graph g { actor a = sum; actor a = no; }", api.ErrTwice, 25)
	refuses(t, "graph g { edge b.0 -> a.0; actor a = sum; }", api.ErrActor, 15)
	refuses(t, "graph g { actor a = sum; edge a.0 -> a.1; }", api.ErrPort, 37)
	refuses(t, "graph g { actor a = sum; edge a.-1 -> a.0; }", api.ErrPort, 30)
	refuses(t, "graph g { actor a = sum; edge a.0 -> a.0; in x -> a.0; }", api.ErrTaken, 50)
	refuses(t, "graph g { actor a = sum; in x -> a.0; }", api.ErrOpen, 10)
	refuses(t, "graph g { actor a = sum; in x -> a.0; out a.0 -> x; }", api.ErrTwice, 38)
	refuses(t, "graph g { actor a = sum; edge a.0 -> a.0 with"+strings.Repeat(" 0", 257)+"; }", api.ErrStart, 25)
	refuses(t, "graph g {"+strings.Repeat("actor a=no;", 33)+"}", api.ErrMany, 9+32*11)
	refuses(t, "graph g { actor a = sum;"+strings.Repeat("out a.0->y;", 17)+"}", api.ErrMany, 24+16*11)
}

// TestSketchFirst is P9.1: what sketch.Parse refuses comes ahead of what graph.Build refuses, wherever it stands.
func TestSketchFirst(t *testing.T) {
	refuses(t, "graph g { actor a = no; ; }", api.ErrToken, 24)
	refuses(t, "graph g { actor a = sum; actor a = no; } 007", api.ErrNumber, 41)
	refuses(t, "graph g { } A", api.ErrByte, 12)
	refuses(t, "graph g {} x", api.ErrToken, 11)
	refuses(t, "graph g {"+strings.Repeat("actor a=no;", 100000)+"}", api.ErrLong, api.MaxText)
}

// byParts is what Parse should answer, by the two calls that P9.1 names.
func byParts(text string) (api.Graph, api.Fault) {
	s, f := sketch.Parse(text)
	if f.Code != api.OK {
		return api.Graph{}, f
	}
	return graph.Build(s)
}

// TestParseMany is P9.1 and P9.3: texts with some bytes changed, against the two calls by which they are read; a refusal's place is one in the text, or its end.
func TestParseMany(t *testing.T) {
	c := chance(91)
	seen := map[api.Errno]int{}
	for range 20000 {
		text := c.spoilText(c.spaced(c.sound(1 + c.below(3))))
		g, f := byParts(text)
		seen[f.Code]++
		if f.Code == api.OK {
			reads(t, text, g)
		} else {
			refuses(t, text, f.Code, f.At)
		}
		if f.At < 0 || f.At > len(text) {
			t.Errorf("Parse(%q): refused at %d", short(text), f.At)
		}
		if t.Failed() {
			return
		}
	}
	for _, e := range []api.Errno{api.OK, api.ErrByte, api.ErrNumber, api.ErrWord, api.ErrToken, api.ErrTag, api.ErrParams, api.ErrTwice, api.ErrActor, api.ErrPort, api.ErrTaken, api.ErrOpen} {
		if seen[e] < 5 {
			t.Errorf("%v came %d times only", e, seen[e])
		}
	}
}

// base is a sound graph, with all that the faults below need.
func base() api.Graph {
	return api.Graph{
		Name:   "g",
		Actors: []api.Actor{{Name: "a", Tag: api.Weave, Params: []int{2, 1}}, {Name: "b", Tag: api.Copy, Params: []int{3}}, {Name: "c", Tag: api.Drop, Params: []int{1}}},
		Edges:  []api.Edge{{From: 0, To: 1, Start: []int{1, 2}}, {From: 1, To: 2}},
		Ins:    []api.Port{{Name: "x"}, {Name: "z", Port: 1}},
		Outs:   []api.Port{{Name: "y", Actor: 1, Port: 1}, {Name: "w", Actor: 1, Port: 2}},
	}
}

// TestPrintRefuses is P9.2: a graph of each kind that graph.Check refuses.
func TestPrintRefuses(t *testing.T) {
	prints(t, base(), "graph g {\n  actor a = weave 2 1;\n  actor b = copy 3;\n  actor c = drop 1;\n  edge a.0 -> b.0 with 1 2;\n  edge b.0 -> c.0;\n  in x -> a.0;\n  in z -> a.1;\n  out b.1 -> y;\n  out b.2 -> w;\n}\n")
	for _, x := range []struct {
		code api.Errno
		turn func(g *api.Graph)
	}{
		{api.ErrName, func(g *api.Graph) { *g = api.Graph{} }},
		{api.ErrName, func(g *api.Graph) { g.Name = "g g" }},
		{api.ErrName, func(g *api.Graph) { g.Name = "abcdefghijklmnopq" }},
		{api.ErrEmpty, func(g *api.Graph) { g.Actors = nil }},
		{api.ErrMany, func(g *api.Graph) { g.Actors = slices.Repeat(g.Actors[:1], 33) }},
		{api.ErrMany, func(g *api.Graph) { g.Edges = slices.Repeat(g.Edges, 49) }},
		{api.ErrMany, func(g *api.Graph) { g.Ins = slices.Repeat(g.Ins, 9) }},
		{api.ErrMany, func(g *api.Graph) { g.Outs = slices.Repeat(g.Outs, 9) }},
		{api.ErrName, func(g *api.Graph) { g.Actors[2].Name = "c; }" }},
		{api.ErrTwice, func(g *api.Graph) { g.Actors[2].Name = "a" }},
		{api.ErrTag, func(g *api.Graph) { g.Actors[1].Tag = 0 }},
		{api.ErrTag, func(g *api.Graph) { g.Actors[1].Tag = 12 }},
		{api.ErrParams, func(g *api.Graph) { g.Actors[1].Params = nil }},
		{api.ErrParams, func(g *api.Graph) { g.Actors[2].Params = []int{65} }},
		{api.ErrActor, func(g *api.Graph) { g.Edges[1].From = 3 }},
		{api.ErrActor, func(g *api.Graph) { g.Edges[1].To = least }},
		{api.ErrPort, func(g *api.Graph) { g.Edges[1].FromPort = greatest }},
		{api.ErrPort, func(g *api.Graph) { g.Edges[1].ToPort = -1 }},
		{api.ErrTaken, func(g *api.Graph) { g.Edges[1] = g.Edges[0] }},
		{api.ErrStart, func(g *api.Graph) { g.Edges[1].Start = make([]int, 257) }},
		{api.ErrName, func(g *api.Graph) { g.Ins[1].Name = "" }},
		{api.ErrTwice, func(g *api.Graph) { g.Ins[1].Name = "c" }},
		{api.ErrActor, func(g *api.Graph) { g.Ins[1].Actor = -1 }},
		{api.ErrPort, func(g *api.Graph) { g.Ins[1].Port = 2 }},
		{api.ErrTaken, func(g *api.Graph) { g.Ins[1].Port = 0 }},
		{api.ErrName, func(g *api.Graph) { g.Outs[1].Name = "W" }},
		{api.ErrTwice, func(g *api.Graph) { g.Outs[1].Name = "x" }},
		{api.ErrActor, func(g *api.Graph) { g.Outs[1].Actor = 3 }},
		{api.ErrPort, func(g *api.Graph) { g.Outs[1].Port = 3 }},
		{api.ErrTaken, func(g *api.Graph) { g.Outs[1].Port = 0 }},
		{api.ErrOpen, func(g *api.Graph) { g.Ins = g.Ins[:1] }},
		{api.ErrOpen, func(g *api.Graph) { g.Outs = nil }},
	} {
		g := base()
		x.turn(&g)
		unprinted(t, g, x.code)
	}
}

// TestPrintMany is P9.2: graphs with some things changed, against Check and the model of the one form.
func TestPrintMany(t *testing.T) {
	c := chance(92)
	sound := 0
	for range 20000 {
		g := c.sound(1 + c.below(4))
		for range c.below(3) {
			c.spoil(&g)
		}
		if e := graph.Check(g); e != api.OK {
			unprinted(t, g, e)
		} else {
			sound++
			prints(t, g, oneForm(g))
		}
		if t.Failed() {
			return
		}
	}
	if sound < 5000 || sound > 15000 {
		t.Errorf("%d of 20000 graphs are sound", sound)
	}
}
