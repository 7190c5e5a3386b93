package net_test

import (
	"slices"
	"strconv"

	"pianola/api"
	"pianola/net"
	"pianola/shape"
)

// chance gives numbers without any order that is to be seen, the same ones at each run.
type chance uint64

func (c *chance) below(n int) int {
	*c = *c*6364136223846793005 + 1442695040888963407
	return int(uint64(*c)>>33) % n
}

func pick[T any](c *chance, of ...T) T { return of[c.below(len(of))] }

func mix[T any](c *chance, list []T) {
	for i := range list {
		j := i + c.below(len(list)-i)
		list[i], list[j] = list[j], list[i]
	}
}

// net is a sound one: some have tokens enough that much can fire, some have few.
func (c *chance) net() api.Net {
	n := api.Net{Nodes: 1 + c.below(pick(c, 2, 4, 32))}
	rate, start := pick(c, 2, 4, 64), pick(c, 1, 8, 257)
	for range c.below(pick(c, 2, 6, 97)) {
		n.Arcs = append(n.Arcs, api.Arc{From: c.below(n.Nodes), To: c.below(n.Nodes), Give: 1 + c.below(rate), Take: 1 + c.below(rate), Start: c.below(start)})
	}
	return n
}

// spoil changes some numbers of a net, which may make it wrong or not.
func (c *chance) spoil(n *api.Net) {
	few := []int{least, -65, -1, 0, 1, 2, 31, 32, 33, 64, 65, 256, 257, greatest}
	for range 1 + c.below(3) {
		if c.below(8) == 0 {
			n.Nodes = pick(c, few...)
		}
		if c.below(8) == 0 {
			n.Arcs = append(n.Arcs, make([]api.Arc, 96-min(96, len(n.Arcs))+c.below(3))...)
		}
		if len(n.Arcs) > 0 {
			a := &n.Arcs[c.below(len(n.Arcs))]
			*pick(c, &a.From, &a.To, &a.Give, &a.Take, &a.Start) = pick(c, few...)
		}
	}
}

// row are nodes to fire; some name none.
func (c *chance) row(n api.Net) []int {
	row := make([]int, c.below(8))
	for i := range row {
		row[i] = c.below(n.Nodes)
		if c.below(40) == 0 {
			row[i] = pick(c, least, -1, n.Nodes, greatest)
		}
	}
	return row
}

// ready are the nodes that may fire.
func ready(s *net.State, n api.Net) []int {
	return slices.DeleteFunc(nodes(n), func(node int) bool { return !s.May(node) })
}

// actor is an actor that may be, of any rates and with few ports.
func (c *chance) actor(name string) api.Actor {
	a := api.Actor{Name: name, Tag: api.Tag(1 + c.below(11))}
	switch a.Tag {
	case api.Filter, api.Tick:
		a.Params = []int{pick(c, least, 0, greatest), 3}
	case api.Weave, api.Unweave:
		a.Params = []int{1 + c.below(4), 1 + c.below(16)}
	case api.Up, api.Down, api.Drop:
		a.Params = []int{1 + c.below(64)}
	case api.Add, api.Copy:
		a.Params = []int{1 + c.below(4)}
	}
	return a
}

// openPorts are all in-ports and all out-ports of a graph's actors, each with a name of its own.
func openPorts(g api.Graph) (ins, outs []api.Port) {
	for i, a := range g.Actors {
		takes, gives, _ := shape.Of(a.Tag, a.Params...)
		for port := range takes {
			ins = append(ins, api.Port{Actor: i, Port: port, Name: "x" + strconv.Itoa(len(ins))})
		}
		for port := range gives {
			outs = append(outs, api.Port{Actor: i, Port: port, Name: "y" + strconv.Itoa(len(outs))})
		}
	}
	return ins, outs
}

// edge leads from an out-port to an in-port.
func edge(from, to api.Port, start int) api.Edge {
	return api.Edge{From: from.Actor, FromPort: from.Port, To: to.Actor, ToPort: to.Port, Start: make([]int, start)}
}

// graph is a sound one, of up to so many actors: of fewer, where more would leave too many ports on one side.
func (c *chance) graph(actors int) api.Graph {
	g := api.Graph{Name: "g"}
	var ins, outs []api.Port
	for i := 0; i < actors && max(len(ins)-len(outs), len(outs)-len(ins)) <= 12; i++ {
		g.Actors = append(g.Actors, c.actor("a"+strconv.Itoa(i)))
		ins, outs = openPorts(g)
	}
	mix(c, ins)
	mix(c, outs)
	for len(ins) > 0 && len(outs) > 0 && (len(ins) > 16 || len(outs) > 16 || c.below(6) > 0) {
		g.Edges = append(g.Edges, edge(outs[0], ins[0], pick(c, 0, 0, 1, 2, 255, 256)))
		ins, outs = ins[1:], outs[1:]
	}
	g.Ins, g.Outs = ins, outs
	return g
}

// spoilGraph changes one thing of a graph, which may make it wrong or not.
func (c *chance) spoilGraph(g *api.Graph) {
	few := []int{least, -1, 0, 1, 2, 16, 32, greatest}
	names := []string{"g", "a0", "a1", "x0", "y0", "", "A"}
	switch a := &g.Actors[c.below(len(g.Actors))]; c.below(6) {
	case 0:
		a.Name = pick(c, names...)
	case 1:
		a.Tag = api.Tag(c.below(13))
	case 2:
		a.Params = slices.Repeat([]int{pick(c, few...)}, c.below(4))
	case 3:
		if len(g.Edges) > 0 {
			e := &g.Edges[c.below(len(g.Edges))]
			*pick(c, &e.From, &e.FromPort, &e.To, &e.ToPort) = pick(c, few...)
		}
	case 4:
		if len(g.Edges) > 0 {
			g.Edges[c.below(len(g.Edges))].Start = make([]int, 257)
		}
	case 5:
		ports := pick(c, &g.Ins, &g.Outs)
		*ports = slices.Repeat(*ports, c.below(3))
	}
}
