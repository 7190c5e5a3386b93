package emit_test

import (
	"slices"
	"strconv"

	"pianola/api"
)

// chance gives numbers without any order that is to be seen, the same ones at each run.
type chance uint64

func (c *chance) below(n int) int {
	*c = *c*6364136223846793005 + 1442695040888963407
	return int(uint64(*c)>>33) % n
}

func pick[T any](c *chance, of ...T) T { return of[c.below(len(of))] }

func mix[T any](c *chance, list []T) {
	for i := range list {
		j := i + c.below(len(list)-i)
		list[i], list[j] = list[j], list[i]
	}
}

func (c *chance) numbers(many int) []int {
	var all []int
	for range many {
		all = append(all, pick(c, least, -7, -1, 0, 1, 2, 300, greatest))
	}
	return all
}

// actor is one that may be, of any tag.
func (c *chance) actor(name string) api.Actor {
	a := api.Actor{Name: name, Tag: api.Tag(1 + c.below(11))}
	switch a.Tag {
	case api.Filter:
		a.Params = c.numbers(1 + c.below(16))
	case api.Tick:
		a.Params = c.numbers(2)
	case api.Weave, api.Unweave:
		ports := 1 + c.below(4)
		a.Params = list(ports, 1+c.below(64/ports))
	case api.Up, api.Down, api.Drop:
		a.Params = list(pick(c, 1, 2, 3, 64, 1+c.below(64)))
	case api.Add, api.Copy:
		a.Params = list(1 + c.below(4))
	}
	return a
}

// ports are all in-ports and all out-ports of actors, each with a name of its own.
func ports(actors []api.Actor) (ins, outs []api.Port) {
	for i, a := range actors {
		takes, gives := ratesOf(a)
		for port := range takes {
			ins = append(ins, api.Port{Actor: i, Port: port, Name: "x" + strconv.Itoa(len(ins))})
		}
		for port := range gives {
			outs = append(outs, api.Port{Actor: i, Port: port, Name: "y" + strconv.Itoa(len(outs))})
		}
	}
	return ins, outs
}

// edge leads from an out-port to an in-port.
func edge(from, to api.Port, start ...int) api.Edge {
	return api.Edge{From: from.Actor, FromPort: from.Port, To: to.Actor, ToPort: to.Port, Start: start}
}

// graph is a sound one, of up to so many actors: of fewer, where more would leave too many ports on one side. What is on the ports is mixed.
func (c *chance) graph(actors int) api.Graph {
	g := api.Graph{Name: "g"}
	var ins, outs []api.Port
	for i := 0; i < actors && max(len(ins)-len(outs), len(outs)-len(ins)) <= 12; i++ {
		g.Actors = append(g.Actors, c.actor("a"+strconv.Itoa(i)))
		ins, outs = ports(g.Actors)
	}
	mix(c, ins)
	mix(c, outs)
	for len(ins) > 0 && len(outs) > 0 && (len(ins) > 16 || len(outs) > 16 || c.below(6) > 0) {
		start := c.numbers(pick(c, 0, 0, 1, 2, 30, 255, 256))
		g.Edges = append(g.Edges, edge(outs[0], ins[0], start...))
		ins, outs = ins[1:], outs[1:]
	}
	g.Ins, g.Outs = ins, outs
	return g
}

// plan is one that a sound graph may have: no region ends behind the total, and each has room for what is there at the start.
func (c *chance) plan(g api.Graph) api.Plan {
	p := api.Plan{Total: pick(c, 1024, 1024, c.below(1025))}
	for _, e := range g.Edges {
		p.Total = max(p.Total, len(e.Start))
	}
	if c.below(4) == 0 {
		p.Total = 0
		for _, e := range g.Edges {
			p.Total = max(p.Total, len(e.Start))
		}
	}
	for _, e := range g.Edges {
		size := len(e.Start) + c.below(p.Total-len(e.Start)+1)
		size = pick(c, len(e.Start), size, p.Total)
		p.Regions = append(p.Regions, api.Region{Base: pick(c, 0, p.Total-size, c.below(p.Total-size+1)), Size: size})
	}
	return p
}

// total is how many firings a nest is to have: as a rule few, or nearly as many as there may be.
func (c *chance) total() int {
	return pick(c, 0, 1, 2, 1+c.below(12), 1+c.below(100), 1+c.below(2048), 1024, 1800, 2046, 2047, 2048, 2048)
}

// nest is a sound one of just so many firings of so many actors, with at most so many blocks within one another.
func (c *chance) nest(actors, total, deep int) []api.Loop {
	var all []api.Loop
	for total > 0 {
		some := min(total, 1+c.below(pick(c, 3, 10, 100, total)))
		all = append(all, c.loop(actors, some, deep))
		total -= some
	}
	return all
}

// loop is a sound one of just so many firings.
func (c *chance) loop(actors, total, deep int) api.Loop {
	if deep == 0 || c.below(4) == 0 {
		if total > 1 && deep > 0 && c.below(2) == 0 {
			return block(1, c.nest(actors, total, deep-1)...)
		}
		return leaf(c.below(actors), total)
	}
	times := pick(c, 1, 2, 2, 3, 4, 7)
	if total%times != 0 {
		times = 1
	}
	return block(times, c.nest(actors, total/times, deep-1)...)
}

// nestOf is a sound nest of a graph's actors.
func (c *chance) nestOf(g api.Graph) []api.Loop {
	return c.nest(len(g.Actors), c.total(), c.below(17))
}

// spoilGraph changes one thing of a graph, which may make it wrong or not.
func (c *chance) spoilGraph(g *api.Graph) {
	few := list(least, -1, 0, 1, 2, 16, 32, greatest)
	names := list("g", "a0", "a1", "x0", "y0", "", "A")
	switch a := &g.Actors[c.below(len(g.Actors))]; c.below(6) {
	case 0:
		a.Name = pick(c, names...)
	case 1:
		a.Tag = api.Tag(c.below(13))
	case 2:
		a.Params = slices.Repeat(list(pick(c, few...)), c.below(4))
	case 3:
		if len(g.Edges) > 0 {
			e := &g.Edges[c.below(len(g.Edges))]
			*pick(c, &e.From, &e.FromPort, &e.To, &e.ToPort) = pick(c, few...)
		}
	case 4:
		if len(g.Edges) > 0 {
			g.Edges[c.below(len(g.Edges))].Start = make([]int, c.below(258))
		}
	case 5:
		side := pick(c, &g.Ins, &g.Outs)
		*side = slices.Repeat(*side, c.below(3))
	}
}

// allLoops are pointers to all loops of a nest, so that they can be changed.
func allLoops(of []api.Loop) []*api.Loop {
	var all []*api.Loop
	for i := range of {
		all = append(all, &of[i])
		all = append(all, allLoops(of[i].Body)...)
	}
	return all
}

// spoilNest changes a loop of a nest, which may make it wrong or not.
func (c *chance) spoilNest(of []api.Loop, actors int) {
	all := allLoops(of)
	if len(all) == 0 {
		return
	}
	loop := pick(c, all...)
	switch c.below(5) {
	case 0:
		loop.Times = pick(c, least, -1, 0, loop.Times+1, 2048, 2049, 1<<62, greatest)
	case 1, 2:
		loop.Node = pick(c, -1, 0, actors-1, actors, actors+1, 31, 32, greatest)
	case 3:
		*loop = within(*loop, slices.Repeat(list(1), 1+c.below(17))...)
	case 4:
		loop.Body = append(slices.Clone(loop.Body), leaf(pick(c, actors-1, actors, c.below(33)), 1))
	}
}

// spoilPlan changes one thing of a plan, which may make it wrong or not.
func (c *chance) spoilPlan(p *api.Plan) {
	edges := list(least, least+1, -1, 0, 1, 255, 256, 257, 1023, 1024, 1025, greatest-1, greatest)
	if len(p.Regions) == 0 || c.below(5) == 0 {
		p.Total = pick(c, append(edges, p.Total-1, p.Total+1)...)
		return
	}
	i := c.below(len(p.Regions))
	r := &p.Regions[i]
	switch c.below(5) {
	case 0:
		p.Regions = slices.Delete(p.Regions, i, i+1)
	case 1:
		p.Regions = slices.Insert(p.Regions, i, *r)
	case 2, 3:
		*pick(c, &r.Base, &r.Size) += pick(c, -1, 1)
	case 4:
		*pick(c, &r.Base, &r.Size) = pick(c, edges...)
	}
}
