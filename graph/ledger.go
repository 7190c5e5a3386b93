package graph

import (
	"slices"

	"pianola/api"
	"pianola/lex"
	"pianola/shape"
)

// ledger is what is known of a graph, as far as it has been gone through: how many have a name, and which ports something is on.
type ledger struct {
	names map[string]int
	ins   side
	outs  side
}

// enter notes a name: no two of the actors, the inputs and the outputs have the same one.
func (l *ledger) enter(name string) api.Errno {
	if !lex.Name(name) {
		return api.ErrName
	}
	l.names[name]++
	if l.names[name] > 1 {
		return api.ErrTwice
	}
	return api.OK
}

// open notes the ports of the next actor, with nothing on them.
func (l *ledger) open(a api.Actor) api.Errno {
	ins, outs, e := shape.Of(a.Tag, a.Params...)
	if e != api.OK {
		return e
	}
	l.ins = append(l.ins, make([]bool, len(ins)))
	l.outs = append(l.outs, make([]bool, len(outs)))
	return api.OK
}

// side is all actors' in-ports, or all actors' out-ports: of each one whether something is on it.
type side [][]bool

// take puts something on a port.
func (s side) take(actor, port int) api.Errno {
	switch {
	case actor < 0, actor >= len(s):
		return api.ErrActor
	case port < 0, port >= len(s[actor]):
		return api.ErrPort
	case s[actor][port]:
		return api.ErrTaken
	}
	s[actor][port] = true
	return api.OK
}

// gap tells whether an actor has a port that nothing is on.
func (s side) gap(actor int) bool { return slices.Contains(s[actor], false) }
