package graph

import (
	"pianola/api"
	"pianola/shape"
)

// nobody is the number of an actor that there is not.
const nobody = -1

func kindless(item api.Item) bool { return item.Kind < api.ActorItem || item.Kind > api.OutItem }

// lookUp is the graph of a sketch, sound or not: a tag that is none is 0, an actor that is none is nobody. Its lists of numbers are still the sketch's own: only those of a sound graph are known to be short enough to copy.
func lookUp(s api.Sketch) api.Graph {
	g := api.Graph{Name: s.Name}
	known := numbersByName(s.Items)
	for _, item := range s.Items {
		switch item.Kind {
		case api.ActorItem:
			tag, _ := shape.Tag(item.Tag)
			g.Actors = append(g.Actors, api.Actor{Name: item.Name, Tag: tag, Params: item.Nums})
		case api.EdgeItem:
			from, to := numberOf(known, item.From.Name), numberOf(known, item.To.Name)
			g.Edges = append(g.Edges, api.Edge{From: from, FromPort: item.From.Port, To: to, ToPort: item.To.Port, Start: item.Nums})
		case api.InItem:
			g.Ins = append(g.Ins, api.Port{Name: item.Name, Actor: numberOf(known, item.To.Name), Port: item.To.Port})
		case api.OutItem:
			g.Outs = append(g.Outs, api.Port{Name: item.Name, Actor: numberOf(known, item.From.Name), Port: item.From.Port})
		}
	}
	return g
}

// numbersByName are the actors' numbers.
func numbersByName(items []api.Item) map[string]int {
	known := map[string]int{}
	number := 0
	for _, item := range items {
		if item.Kind == api.ActorItem {
			known[item.Name] = number
			number++
		}
	}
	return known
}

func numberOf(known map[string]int, name string) int {
	if number, there := known[name]; there {
		return number
	}
	return nobody
}

// ownLists is the graph with lists of numbers that are its own.
func ownLists(g api.Graph) api.Graph {
	for i := range g.Actors {
		g.Actors[i].Params = copied(g.Actors[i].Params)
	}
	for i := range g.Edges {
		g.Edges[i].Start = copied(g.Edges[i].Start)
	}
	return g
}

func copied(ns []int) []int { return append([]int(nil), ns...) }

// placeOf is where in the text a flaw is.
func placeOf(f flaw, items []api.Item) int {
	number := 0
	for _, item := range items {
		if item.Kind != f.kind {
			continue
		}
		if number == f.number {
			return placeWithin(item, f.end)
		}
		number++
	}
	return 0 // of the graph
}

func placeWithin(item api.Item, at end) int {
	switch at {
	case fromEnd:
		return item.From.At
	case toEnd:
		return item.To.At
	}
	return item.At
}
