package net

import (
	"slices"

	"pianola/api"
)

// noArc is the place of an arc that there is not.
const noArc = -1

// State is a net and the tokens on its arcs.
type State struct {
	wiring
	tokens []int
	fired  []int
}

// New is a net at its start.
func New(n api.Net) (*State, api.Errno) {
	if e := Check(n); e != api.OK {
		return nil, e
	}
	s := &State{wiring: wired(n), fired: make([]int, n.Nodes)}
	for _, a := range n.Arcs {
		s.tokens = append(s.tokens, a.Start)
	}
	return s, api.OK
}

// May tells whether a node may fire.
func (s *State) May(node int) bool {
	return s != nil && s.isNode(node) && s.Short(node) == noArc
}

// Short is the first in-arc on which a node lacks tokens, or -1; of a nil state it is the zero value, as every answer is.
func (s *State) Short(node int) int {
	if s == nil {
		return 0
	}
	if !s.isNode(node) {
		return noArc
	}
	for _, i := range s.inArcs(node) {
		if s.tokens[i] < s.arcs[i].Take {
			return i
		}
	}
	return noArc
}

// Fire fires nodes one behind the other, up to the first one that may not; it tells how many fired.
func (s *State) Fire(nodes ...int) int {
	for i, node := range nodes {
		if !s.May(node) {
			return i
		}
		s.fire(node)
	}
	return len(nodes)
}

// fire is a firing of a node that may.
func (s *State) fire(node int) {
	for _, i := range s.inArcs(node) {
		s.tokens[i] -= s.arcs[i].Take
	}
	for _, i := range s.outArcs(node) {
		s.tokens[i] += s.arcs[i].Give
	}
	s.fired[node]++
}

// Counts is how many tokens each arc has.
func (s *State) Counts() []int {
	if s == nil {
		return nil
	}
	return slices.Clone(s.tokens)
}

// Fired is how often each node has fired.
func (s *State) Fired() []int {
	if s == nil {
		return nil
	}
	return slices.Clone(s.fired)
}
