package graph_test

import (
	"regexp"
	"slices"

	"pianola/api"
	"pianola/shape"
)

const (
	least    = -9223372036854775808
	greatest = 9223372036854775807
)

var name = regexp.MustCompile(`^[a-z][a-z0-9_]{0,15}$`)

// finding is one thing that is wrong: its rank is the step of P8.1, the number of what is gone through there, and what stands ahead of it there.
type finding struct {
	rank [3]int
	code api.Errno
	at   where
}

// where says what a finding's place is: of the graph, of the item of a kind with a number, or of a place of it.
type where struct {
	kind   api.ItemKind
	number int
	field  string
}

// model finds all that is wrong with a graph, whatever stands ahead of it.
type model struct {
	g     api.Graph
	found []finding
}

func (m *model) if_(holds bool, step, number, order int, code api.Errno, at where) {
	if holds {
		m.found = append(m.found, finding{[3]int{step, number, order}, code, at})
	}
}

// ports are how many an actor has.
func (m *model) ports(actor int, ins bool) int {
	a, b, _ := shape.Of(m.g.Actors[actor].Tag, m.g.Actors[actor].Params...)
	if ins {
		return len(a)
	}
	return len(b)
}

func (m *model) isActor(i int) bool { return i >= 0 && i < len(m.g.Actors) }

func (m *model) isPort(actor, port int, ins bool) bool {
	return m.isActor(actor) && port >= 0 && port < m.ports(actor, ins)
}

// on is how many of the first edges, and of the first inputs or outputs, are on a port.
func (m *model) on(edges, others, actor, port int, ins bool) int {
	n := 0
	for _, e := range m.g.Edges[:edges] {
		if ins && e.To == actor && e.ToPort == port || !ins && e.From == actor && e.FromPort == port {
			n++
		}
	}
	list := m.g.Outs
	if ins {
		list = m.g.Ins
	}
	for _, p := range list[:others] {
		if p.Actor == actor && p.Port == port {
			n++
		}
	}
	return n
}

// names are those of all actors, inputs and outputs, in this order.
func (m *model) names() []string {
	var all []string
	for _, a := range m.g.Actors {
		all = append(all, a.Name)
	}
	for _, p := range append(slices.Clone(m.g.Ins), m.g.Outs...) {
		all = append(all, p.Name)
	}
	return all
}

func (m *model) head() {
	g := m.g
	m.if_(!name.MatchString(g.Name), 1, 0, 0, api.ErrName, where{})
	m.if_(len(g.Actors) == 0, 1, 0, 1, api.ErrEmpty, where{})
	m.if_(len(g.Actors) > 32, 1, 0, 2, api.ErrMany, where{api.ActorItem, 32, "item"})
	m.if_(len(g.Edges) > 96, 1, 0, 3, api.ErrMany, where{api.EdgeItem, 96, "item"})
	m.if_(len(g.Ins) > 16, 1, 0, 4, api.ErrMany, where{api.InItem, 16, "item"})
	m.if_(len(g.Outs) > 16, 1, 0, 5, api.ErrMany, where{api.OutItem, 16, "item"})
}

func (m *model) actors() {
	names := m.names()
	for i, a := range m.g.Actors {
		at := where{api.ActorItem, i, "item"}
		_, _, e := shape.Of(a.Tag, a.Params...)
		m.if_(!name.MatchString(a.Name), 2, i, 0, api.ErrName, at)
		m.if_(slices.Contains(names[:i], a.Name), 2, i, 1, api.ErrTwice, at)
		m.if_(e != api.OK, 2, i, 2, e, at)
		for port := range m.ports(i, true) {
			m.if_(m.on(len(m.g.Edges), len(m.g.Ins), i, port, true) == 0, 6, i, 0, api.ErrOpen, at)
		}
		for port := range m.ports(i, false) {
			m.if_(m.on(len(m.g.Edges), len(m.g.Outs), i, port, false) == 0, 6, i, 0, api.ErrOpen, at)
		}
	}
}

func (m *model) place(step, number, order, actor, port, edges, others int, ins bool, at where) {
	m.if_(!m.isActor(actor), step, number, order, api.ErrActor, at)
	m.if_(!m.isPort(actor, port, ins), step, number, order+1, api.ErrPort, at)
	m.if_(m.on(edges, others, actor, port, ins) > 0, step, number, order+2, api.ErrTaken, at)
}

func (m *model) edges() {
	for i, e := range m.g.Edges {
		m.place(3, i, 0, e.From, e.FromPort, i, 0, false, where{api.EdgeItem, i, "from"})
		m.place(3, i, 3, e.To, e.ToPort, i, 0, true, where{api.EdgeItem, i, "to"})
		m.if_(len(e.Start) > 256, 3, i, 6, api.ErrStart, where{api.EdgeItem, i, "item"})
	}
}

func (m *model) inputs() {
	names := m.names()
	for i, p := range m.g.Ins {
		at := where{api.InItem, i, "item"}
		m.if_(!name.MatchString(p.Name), 4, i, 0, api.ErrName, at)
		m.if_(slices.Contains(names[:len(m.g.Actors)+i], p.Name), 4, i, 1, api.ErrTwice, at)
		m.place(4, i, 2, p.Actor, p.Port, len(m.g.Edges), i, true, where{api.InItem, i, "to"})
	}
}

func (m *model) outputs() {
	names := m.names()
	for i, p := range m.g.Outs {
		at := where{api.OutItem, i, "item"}
		m.if_(!name.MatchString(p.Name), 5, i, 0, api.ErrName, at)
		m.if_(slices.Contains(names[:len(m.g.Actors)+len(m.g.Ins)+i], p.Name), 5, i, 1, api.ErrTwice, at)
		m.place(5, i, 2, p.Actor, p.Port, len(m.g.Edges), i, false, where{api.OutItem, i, "from"})
	}
}

// expected is a graph's first finding; a finding of noughts, if it is sound.
func expected(g api.Graph) finding {
	m := &model{g: g}
	m.head()
	m.actors()
	m.edges()
	m.inputs()
	m.outputs()
	if len(m.found) == 0 {
		return finding{}
	}
	return slices.MinFunc(m.found, func(a, b finding) int { return slices.Compare(a.rank[:], b.rank[:]) })
}

// ofKind are a sketch's items of a Kind.
func ofKind(s api.Sketch, kind api.ItemKind) []api.Item {
	return slices.DeleteFunc(slices.Clone(s.Items), func(item api.Item) bool { return item.Kind != kind })
}

// read is the graph of a sketch whose Kinds are right, sound or not; what is not found is -7 (an actor), or 99 (a tag).
func read(s api.Sketch) api.Graph {
	actors := ofKind(s, api.ActorItem)
	number := func(p api.Place) int {
		if i := slices.IndexFunc(actors, func(a api.Item) bool { return a.Name == p.Name }); i >= 0 {
			return i
		}
		return -7
	}
	g := api.Graph{Name: s.Name}
	for _, a := range actors {
		tag, e := shape.Tag(a.Tag)
		if e != api.OK {
			tag = 99
		}
		g.Actors = append(g.Actors, api.Actor{Name: a.Name, Tag: tag, Params: a.Nums})
	}
	for _, e := range ofKind(s, api.EdgeItem) {
		g.Edges = append(g.Edges, api.Edge{From: number(e.From), FromPort: e.From.Port, To: number(e.To), ToPort: e.To.Port, Start: e.Nums})
	}
	for _, p := range ofKind(s, api.InItem) {
		g.Ins = append(g.Ins, api.Port{Name: p.Name, Actor: number(p.To), Port: p.To.Port})
	}
	for _, p := range ofKind(s, api.OutItem) {
		g.Outs = append(g.Outs, api.Port{Name: p.Name, Actor: number(p.From), Port: p.From.Port})
	}
	return g
}

// expectedBuild is what Build should answer.
func expectedBuild(s api.Sketch) (api.Graph, api.Fault) {
	for _, item := range s.Items {
		if item.Kind == 0 || item.Kind > 4 {
			return api.Graph{}, api.Fault{Code: api.ErrArg, At: item.At}
		}
	}
	g := read(s)
	f := expected(g)
	if f.code == api.OK {
		return g, api.Fault{}
	}
	return api.Graph{}, api.Fault{Code: f.code, At: expectedPlace(s, f.at)}
}

func expectedPlace(s api.Sketch, at where) int {
	switch at.field {
	case "item":
		return ofKind(s, at.kind)[at.number].At
	case "from":
		return ofKind(s, at.kind)[at.number].From.At
	case "to":
		return ofKind(s, at.kind)[at.number].To.At
	}
	return 0
}
