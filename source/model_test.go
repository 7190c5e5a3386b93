package source_test

import (
	"fmt"
	"slices"
	"strings"

	"pianola/api"
	"pianola/shape"
)

const (
	least    = -9223372036854775808
	greatest = 9223372036854775807
)

// The model writes a graph by itself, as rows of tokens: one of them an item.

func numbers(ns []int) []string {
	var words []string
	for _, n := range ns {
		words = append(words, fmt.Sprint(n))
	}
	return words
}

func placed(g api.Graph, actor, port int) []string {
	return []string{g.Actors[actor].Name, ".", fmt.Sprint(port)}
}

func tagWord(tag api.Tag) string {
	return strings.Fields("none filter up down weave unweave add quot sum copy tick drop")[tag]
}

// rows are the items of a sound graph: actors, edges, inputs, outputs.
func rows(g api.Graph) (all [4][][]string) {
	for _, a := range g.Actors {
		all[0] = append(all[0], slices.Concat([]string{"actor", a.Name, "=", tagWord(a.Tag)}, numbers(a.Params), []string{";"}))
	}
	for _, e := range g.Edges {
		row := slices.Concat([]string{"edge"}, placed(g, e.From, e.FromPort), []string{"->"}, placed(g, e.To, e.ToPort))
		if len(e.Start) > 0 {
			row = append(append(row, "with"), numbers(e.Start)...)
		}
		all[1] = append(all[1], append(row, ";"))
	}
	for _, in := range g.Ins {
		all[2] = append(all[2], slices.Concat([]string{"in", in.Name, "->"}, placed(g, in.Actor, in.Port), []string{";"}))
	}
	for _, out := range g.Outs {
		all[3] = append(all[3], slices.Concat([]string{"out"}, placed(g, out.Actor, out.Port), []string{"->", out.Name, ";"}))
	}
	return all
}

// oneForm is the text that Print should tell of a sound graph.
func oneForm(g api.Graph) string {
	text := "graph " + g.Name + " {\n"
	for _, kind := range rows(g) {
		for _, row := range kind {
			line := strings.Join(row, " ")
			line = strings.ReplaceAll(line, " . ", ".")
			line = strings.ReplaceAll(line, " ;", ";")
			text += "  " + line + "\n"
		}
	}
	return text + "}\n"
}

func sameActor(a, b api.Actor) bool {
	return a.Name == b.Name && a.Tag == b.Tag && slices.Equal(a.Params, b.Params)
}

func sameEdge(a, b api.Edge) bool {
	return a.From == b.From && a.FromPort == b.FromPort && a.To == b.To && a.ToPort == b.ToPort && slices.Equal(a.Start, b.Start)
}

// same tells whether two graphs are; a list without elements may be nil or not.
func same(a, b api.Graph) bool {
	return a.Name == b.Name && slices.EqualFunc(a.Actors, b.Actors, sameActor) && slices.EqualFunc(a.Edges, b.Edges, sameEdge) &&
		slices.Equal(a.Ins, b.Ins) && slices.Equal(a.Outs, b.Outs)
}

// longName is a name of MaxName bytes.
func longName(letter string, number int) string {
	return fmt.Sprintf("%s%015d", letter, number)
}

// greatestGraph has 32 actors, 96 edges, 16 inputs and 16 outputs, each edge 256 tokens at the start, the longest names and the longest numbers.
func greatestGraph() api.Graph {
	g := api.Graph{Name: "abcdefghijklmnop"}
	for i := range api.MaxActors {
		a := api.Actor{Name: longName("a", i), Tag: api.Filter, Params: slices.Repeat([]int{least}, api.MaxParams)}
		switch {
		case i < 5:
			a.Tag, a.Params = api.Unweave, []int{16, 4}
		case i < 10:
			a.Tag, a.Params = api.Weave, []int{16, 4}
		case i == 10:
			a.Tag, a.Params = api.Unweave, []int{6, 10}
		case i == 11:
			a.Tag, a.Params = api.Weave, []int{6, 10}
		}
		g.Actors = append(g.Actors, a)
	}
	return joined(g, api.MaxPorts, api.MaxPorts, slices.Repeat([]int{least}, api.MaxStart))
}

// joined is the graph of actors with so many inputs and outputs on the first ports, and edges on all others.
func joined(g api.Graph, inputs, outputs int, start []int) api.Graph {
	var ins, outs []api.Port
	for i, a := range g.Actors {
		takes, gives, _ := shape.Of(a.Tag, a.Params...)
		for port := range takes {
			ins = append(ins, api.Port{Actor: i, Port: port})
		}
		for port := range gives {
			outs = append(outs, api.Port{Actor: i, Port: port})
		}
	}
	for i := range inputs {
		g.Ins = append(g.Ins, api.Port{Name: longName("x", i), Actor: ins[i].Actor, Port: ins[i].Port})
	}
	for i := range outputs {
		g.Outs = append(g.Outs, api.Port{Name: longName("y", i), Actor: outs[i].Actor, Port: outs[i].Port})
	}
	ins, outs = ins[inputs:], outs[outputs:]
	for i := range ins {
		g.Edges = append(g.Edges, api.Edge{From: outs[i].Actor, FromPort: outs[i].Port, To: ins[i].Actor, ToPort: ins[i].Port, Start: slices.Clone(start)})
	}
	return g
}
