package source_test

import (
	"slices"
	"strings"
	"testing"

	"pianola/api"
	"pianola/graph"
	"pianola/source"
)

// TestThereAndBack is P9.3: Parse of what Print tells of a graph is that graph, however it is spaced and in whatever order the Kinds stand.
func TestThereAndBack(t *testing.T) {
	c := chance(93)
	for range 4000 {
		g := c.sound(1 + c.below(8))
		text := oneForm(g)
		prints(t, g, text)
		reads(t, text, g)
		reads(t, c.spaced(g), g)
		if t.Failed() {
			return
		}
	}
}

// TestReadIsSound is P9.3: what Parse answers is sound; Print of it, read again, is the same graph, and printed the same again.
func TestReadIsSound(t *testing.T) {
	c := chance(94)
	read := 0
	for range 10000 {
		text := c.spoilText(c.spaced(c.sound(1 + c.below(3))))
		g, err := source.Parse(text)
		if err != nil {
			continue
		}
		read++
		if e := graph.Check(g); e != api.OK {
			t.Fatalf("Parse(%q) is not sound: %v", text, e)
		}
		printed, err := source.Print(g)
		if err != nil {
			t.Fatalf("Parse(%q) is not printed: %v", text, err)
		}
		reads(t, printed, g)
		prints(t, g, printed)
		again, _ := source.Parse(printed)
		prints(t, again, printed)
		if t.Failed() {
			return
		}
	}
	if read < 500 {
		t.Errorf("%d texts are read only", read)
	}
}

// TestOneTextOneGraph is P9.3: two sound graphs have one text just if they are the same.
func TestOneTextOneGraph(t *testing.T) {
	c := chance(95)
	graphs := map[string]api.Graph{}
	var apart []api.Graph
	for range 3000 {
		g := c.tiny()
		text, err := source.Print(g)
		if err != nil {
			t.Fatal(g, err)
		}
		first, known := graphs[text]
		if known && !same(first, g) {
			t.Fatalf("%v and %v: %q", first, g, text)
		}
		if !known {
			graphs[text] = g
			apart = append(apart, g)
		}
	}
	for i, g := range apart {
		for _, h := range apart[:i] {
			if same(g, h) {
				t.Fatalf("%v has two texts", g)
			}
		}
	}
	if len(apart) < 100 || len(apart) > 200 {
		t.Errorf("%d graphs that are not the same", len(apart))
	}
}

// longest is a bound of the text of any sound graph, by its limits: the longest words, names, ports and numbers in each line.
func longest() int {
	number, port := len(" -9223372036854775808"), len("15")
	place := api.MaxName + len(".") + port
	actor := len("  actor ") + api.MaxName + len(" = unweave") + api.MaxParams*number + len(";\n")
	edge := len("  edge ") + place + len(" -> ") + place + len(" with") + api.MaxStart*number + len(";\n")
	in := len("  in ") + api.MaxName + len(" -> ") + place + len(";\n")
	out := len("  out ") + place + len(" -> ") + api.MaxName + len(";\n")
	return len("graph ") + api.MaxName + len(" {\n") + api.MaxActors*actor + api.MaxEdges*edge + api.MaxPorts*(in+out) + len("}\n")
}

// TestGreatest is P9.2 and P9.3: the greatest sound graphs are printed within MaxText, and read again.
func TestGreatest(t *testing.T) {
	if longest() > api.MaxText {
		t.Errorf("a text may have %d bytes", longest())
	}
	g := greatestGraph()
	if len(g.Actors) != 32 || len(g.Edges) != 96 || len(g.Ins) != 16 || len(g.Outs) != 16 || len(g.Edges[95].Start) != 256 {
		t.Fatal(len(g.Actors), len(g.Edges), len(g.Ins), len(g.Outs))
	}
	text := oneForm(g)
	if len(text) < 96*256*21 || len(text) > longest() {
		t.Errorf("%d bytes", len(text))
	}
	prints(t, g, text)
	reads(t, text, g)
	c := chance(96)
	reads(t, c.spaced(g), g)
	reads(t, text+strings.Repeat("#", api.MaxText-len(text)), g)
	refuses(t, text+strings.Repeat("#", api.MaxText-len(text)+1), api.ErrLong, api.MaxText)
	refuses(t, strings.TrimSuffix(text, "}\n"), api.ErrToken, len(text)-2)

	for i := range g.Edges {
		g.Edges[i].Start[i] = greatest
	}
	reads(t, oneForm(g), g)
	g.Edges[95].Start = append(g.Edges[95].Start, 0)
	unprinted(t, g, api.ErrStart)
}

// TestOneTooMany is P9.1 and P9.2: one more than the greatest graph has, of each Kind.
func TestOneTooMany(t *testing.T) {
	text := oneForm(greatestGraph())
	end := len(text) - len("}\n")
	for _, line := range []string{"  actor q = sum;\n", "  edge q.0 -> q.0;\n", "  in q -> q.0;\n", "  out q.0 -> q;\n"} {
		refuses(t, text[:end]+line+"}\n", api.ErrMany, end+2)
	}
	for _, more := range []func(g *api.Graph){
		func(g *api.Graph) { g.Actors = append(g.Actors, api.Actor{}) },
		func(g *api.Graph) { g.Edges = append(g.Edges, api.Edge{}) },
		func(g *api.Graph) { g.Ins = append(g.Ins, api.Port{}) },
		func(g *api.Graph) { g.Outs = append(g.Outs, api.Port{}) },
	} {
		g := greatestGraph()
		more(&g)
		unprinted(t, g, api.ErrMany)
	}
}

// TestPlaces is P9.3: of whatever is cut off a text, and of bytes of all kinds, a refusal's place is one in it, or its end.
func TestPlaces(t *testing.T) {
	c := chance(97)
	within := func(text string) {
		t.Helper()
		_, err := source.Parse(text)
		if f, is := err.(api.Fault); err != nil && (!is || f.Code == api.OK || f.At < 0 || f.At > len(text)) {
			t.Errorf("Parse(%q): %#v", short(text), err)
		}
	}
	text := c.spaced(c.sound(4))
	for i := range len(text) {
		within(text[:i])
		within(text[i:])
	}
	for range 3000 {
		bytes := make([]byte, c.below(30))
		for i := range bytes {
			bytes[i] = byte(c.below(256))
		}
		within(string(bytes))
		within("graph g {" + string(bytes) + "}")
	}
}

// scrawl writes into a list and into all the room behind it.
func scrawl[T any](list []T, with T) {
	list = list[:cap(list)]
	for i := range list {
		list[i] = with
	}
}

// scrawlGraph writes into all lists of a graph.
func scrawlGraph(g api.Graph) {
	for _, a := range g.Actors {
		scrawl(a.Params, 99)
	}
	for _, e := range g.Edges {
		scrawl(e.Start, 99)
	}
	scrawl(g.Actors, api.Actor{Name: "scrawl"})
	scrawl(g.Edges, api.Edge{From: 9})
	scrawl(g.Ins, api.Port{Name: "scrawl"})
	scrawl(g.Outs, api.Port{Name: "scrawl"})
}

// TestParseMemory is R2: what Parse answers is new memory, and hangs on the text alone.
func TestParseMemory(t *testing.T) {
	c := chance(98)
	for range 500 {
		want := c.sound(1 + c.below(6))
		text := c.spaced(want)
		before := strings.Clone(text)
		first, _ := source.Parse(text)
		second, _ := source.Parse(text)
		scrawlGraph(first)
		if !same(second, want) {
			t.Fatalf("two answers share memory: %v", second)
		}
		if text != before {
			t.Fatalf("Parse changed %q to %q", before, text)
		}
		reads(t, text, want)
	}
}

// TestListsApart is R2: no two lists of one answer share memory.
func TestListsApart(t *testing.T) {
	g, err := source.Parse("graph g { actor a = filter 3; actor b = filter 3 4; in x -> c.0; in z -> c.1; actor c = quot; edge a.0 -> b.0 with 3; edge b.0 -> a.0 with 3 4; out c.0 -> y; }")
	if err != nil {
		t.Fatal(err)
	}
	lists := [][]int{g.Actors[0].Params, g.Actors[1].Params, g.Edges[0].Start, g.Edges[1].Start}
	for i, list := range lists {
		scrawl(list, 100+i)
	}
	for i, list := range lists {
		if list[0] != 100+i {
			t.Errorf("list %d shares memory", i)
		}
	}
	scrawl(g.Ins, api.Port{Name: "in"})
	if g.Outs[0].Name != "y" {
		t.Error("outputs share memory with inputs")
	}
	scrawl(g.Outs, api.Port{Name: "out"})
	if g.Ins[0].Name != "in" || g.Ins[1].Name != "in" {
		t.Error("inputs share memory with outputs")
	}
}

const mark = 777

// roomy is a list with room behind it, which is marked.
func roomy(ns []int) []int { return append(slices.Clone(ns), mark, mark)[:len(ns)] }

func roomLeft(ns []int) bool { return slices.Equal(ns[len(ns):len(ns)+2], []int{mark, mark}) }

// roomyGraph is a graph whose lists have room behind them.
func roomyGraph(g api.Graph) api.Graph {
	g.Actors = append(slices.Clone(g.Actors), api.Actor{Name: "behind"})[:len(g.Actors)]
	g.Edges = append(slices.Clone(g.Edges), api.Edge{From: mark})[:len(g.Edges)]
	g.Ins = append(slices.Clone(g.Ins), api.Port{Name: "behind"})[:len(g.Ins)]
	g.Outs = append(slices.Clone(g.Outs), api.Port{Name: "behind"})[:len(g.Outs)]
	for i := range g.Actors {
		g.Actors[i].Params = roomy(g.Actors[i].Params)
	}
	for i := range g.Edges {
		g.Edges[i].Start = roomy(g.Edges[i].Start)
	}
	return g
}

// behindLeft tells whether the room behind a graph's lists is as roomyGraph made it.
func behindLeft(g api.Graph) bool {
	for _, a := range g.Actors {
		if !roomLeft(a.Params) {
			return false
		}
	}
	for _, e := range g.Edges {
		if !roomLeft(e.Start) {
			return false
		}
	}
	return g.Actors[:len(g.Actors)+1][len(g.Actors)].Name == "behind" && g.Edges[:len(g.Edges)+1][len(g.Edges)].From == mark &&
		g.Ins[:len(g.Ins)+1][len(g.Ins)].Name == "behind" && g.Outs[:len(g.Outs)+1][len(g.Outs)].Name == "behind"
}

// TestPrintMemory is R2: Print leaves what is handed in, and the room behind it, and does not read that room nor keep what it was given.
func TestPrintMemory(t *testing.T) {
	c := chance(99)
	for range 500 {
		plain := c.sound(1 + c.below(6))
		for range c.below(2) {
			c.spoil(&plain)
		}
		want, wanted := source.Print(plain)
		g := roomyGraph(plain)
		text, err := source.Print(g)
		if text != want || err != wanted {
			t.Fatalf("Print(%v): %q %v, not %q %v", g, text, err, want, wanted)
		}
		if !same(g, plain) || !behindLeft(g) {
			t.Fatalf("Print changed %v to %v", plain, g)
		}
		kept := strings.Clone(text)
		scrawlGraph(g)
		if text != kept {
			t.Fatalf("Print's answer shares memory with what was handed in: %q, not %q", text, kept)
		}
		if again, _ := source.Print(plain); again != want {
			t.Fatalf("Print(%v): %q at first, %q later", plain, want, again)
		}
	}
}
