package source_test

import (
	"slices"
	"strconv"
	"strings"

	"pianola/api"
	"pianola/shape"
)

// chance gives numbers without any order that is to be seen, the same ones at each run.
type chance uint64

func (c *chance) below(n int) int {
	*c = *c*6364136223846793005 + 1442695040888963407
	return int(uint64(*c)>>33) % n
}

func pick[T any](c *chance, of ...T) T { return of[c.below(len(of))] }

func mix[T any](c *chance, list []T) {
	for i := range list {
		j := i + c.below(len(list)-i)
		list[i], list[j] = list[j], list[i]
	}
}

func (c *chance) nums(most int) []int {
	var ns []int
	for range c.below(most + 1) {
		ns = append(ns, pick(c, least, -1, 0, 1, 2, 10, greatest))
	}
	return ns
}

// actor is an actor that may be, with few ports.
func (c *chance) actor(name string) api.Actor {
	a := api.Actor{Name: name, Tag: api.Tag(1 + c.below(11))}
	switch a.Tag {
	case api.Filter:
		a.Params = append(c.nums(3), 5)
	case api.Tick:
		a.Params = []int{pick(c, least, 0, greatest), pick(c, -1, 3)}
	case api.Weave, api.Unweave:
		a.Params = []int{1 + c.below(3), 1 + c.below(4)}
	case api.Up, api.Down, api.Add, api.Copy, api.Drop:
		a.Params = []int{1 + c.below(3)}
	}
	return a
}

// sound is a sound graph; the words of the language are among its names.
func (c *chance) sound(actors int) api.Graph {
	names := []string{"graph", "actor", "edge", "in", "out", "with", "abcdefghijklmnop", "up", "a_1", "b2", "c", "d"}
	for i := range 60 {
		names = append(names, "n"+strconv.Itoa(i))
	}
	mix(c, names[:12])
	g := api.Graph{Name: pick(c, "g", "graph", "n0", "with")}
	var ins, outs []api.Port
	for i := range actors {
		a := c.actor(names[i])
		g.Actors = append(g.Actors, a)
		takes, gives, _ := shape.Of(a.Tag, a.Params...)
		for port := range takes {
			ins = append(ins, api.Port{Actor: i, Port: port})
		}
		for port := range gives {
			outs = append(outs, api.Port{Actor: i, Port: port})
		}
	}
	mix(c, ins)
	mix(c, outs)
	for len(ins) > 0 && len(outs) > 0 && (len(ins) > 16 || len(outs) > 16 || c.below(4) > 0) {
		from, to := outs[0], ins[0]
		g.Edges = append(g.Edges, api.Edge{From: from.Actor, FromPort: from.Port, To: to.Actor, ToPort: to.Port, Start: c.nums(3)})
		ins, outs = ins[1:], outs[1:]
	}
	g.Ins, g.Outs = ins, outs
	names = names[actors:]
	for i := range g.Ins {
		g.Ins[i].Name = names[i]
	}
	for i := range g.Outs {
		g.Outs[i].Name = names[len(g.Ins)+i]
	}
	return g
}

// tiny is a sound graph of very few, so that the same one comes again and again.
func (c *chance) tiny() api.Graph {
	g := api.Graph{Name: pick(c, "g", "h"), Actors: []api.Actor{{Name: "a", Tag: api.Sum}, {Name: "b", Tag: api.Filter, Params: pick(c, []int{1}, []int{1, 1}, []int{11})}}}
	if c.below(2) == 0 {
		slices.Reverse(g.Actors)
	}
	start := pick(c, nil, []int{}, []int{0}, []int{1, 1}, []int{11})
	switch c.below(3) {
	case 0:
		g.Edges = []api.Edge{{From: 0, To: 1, Start: start}}
		g.Ins, g.Outs = []api.Port{{Name: "x"}}, []api.Port{{Name: "y", Actor: 1}}
	case 1:
		g.Edges = []api.Edge{{From: 0, To: 1, Start: start}, {From: 1, To: 0}}
	case 2:
		g.Edges = []api.Edge{{From: 1, To: 0}, {From: 0, To: 1, Start: start}}
	}
	return g
}

// spoil changes one thing of a graph, which may make it wrong or not.
func (c *chance) spoil(g *api.Graph) {
	names := []string{"graph", "in", "c", "n0", "", "A", "abcdefghijklmnop", "abcdefghijklmnopq", "a\n"}
	few := []int{least, -1, 0, 1, 2, 3, 16, 32, greatest}
	ports := pick(c, &g.Ins, &g.Outs)
	switch c.below(9) {
	case 0:
		g.Name = pick(c, names...)
	case 1:
		g.Actors[c.below(len(g.Actors))].Name = pick(c, names...)
	case 2:
		g.Actors[c.below(len(g.Actors))].Tag = api.Tag(c.below(13))
	case 3:
		g.Actors[c.below(len(g.Actors))].Params = c.nums(3)
	case 4:
		if len(g.Edges) > 0 {
			e := &g.Edges[c.below(len(g.Edges))]
			*pick(c, &e.From, &e.FromPort, &e.To, &e.ToPort) = pick(c, few...)
		}
	case 5:
		if len(g.Edges) > 0 {
			g.Edges[c.below(len(g.Edges))].Start = slices.Repeat(c.nums(2), 129)
		}
	case 6:
		if len(*ports) > 0 {
			(*ports)[c.below(len(*ports))].Name = pick(c, names...)
		}
	case 7:
		if len(*ports) > 0 {
			p := &(*ports)[c.below(len(*ports))]
			*pick(c, &p.Actor, &p.Port) = pick(c, few...)
		}
	case 8:
		*ports = slices.Repeat(*ports, c.below(3))
	}
}

// spaced writes a graph's items with any blanks and remarks between tokens, and with items of unlike Kinds in any order.
func (c *chance) spaced(g api.Graph) string {
	all := rows(g)
	var kinds []int
	for kind := range all {
		kinds = append(kinds, slices.Repeat([]int{kind}, len(all[kind]))...)
	}
	mix(c, kinds)
	tokens := []string{"graph", g.Name, "{"}
	for _, kind := range kinds {
		tokens = append(tokens, all[kind][0]...)
		all[kind] = all[kind][1:]
	}
	return c.written(append(tokens, "}"))
}

func isMark(token string) bool {
	return slices.Contains([]string{"{", "}", "=", ";", ".", "->"}, token)
}

// written are tokens with any blanks and remarks around them, or none beside a mark.
func (c *chance) written(tokens []string) string {
	var text strings.Builder
	for i, token := range tokens {
		gap := pick(c, " ", "\n", "\t ", "\r\n", " # edge a.0 ->\n", "#\n", "  ")
		if (i == 0 || isMark(token) || isMark(tokens[i-1])) && c.below(2) == 0 {
			gap = ""
		}
		text.WriteString(gap + token)
	}
	return text.String() + pick(c, "", "\n", " ", "# }", " \t\n")
}

// spoilText changes some bytes of a text, or puts one more item into it, which may make it wrong or not.
func (c *chance) spoilText(text string) string {
	for range 1 + c.below(3) {
		at := c.below(len(text) + 1)
		end := min(len(text), at+c.below(4))
		put := pick(c, "", "", " ", "0", "7", "a", "b2", ";", ".", "-", ">", "->", "{", "}", "=", "#", "A", "\x00", "\xff", "007", "with", "abcdefghijklmnopq")
		if c.below(3) == 0 {
			at = strings.Index(text, "{") + 1
			end = at
			put = pick(c, "actor c = drop 1;", "in q -> c.0;", "edge up.0 -> up.0;", "out in.0 -> q;", "actor q = no;", "out in.0 -> up;")
		}
		text = text[:at] + put + text[end:]
	}
	return text
}
