package net_test

import (
	"slices"
	"testing"

	"pianola/api"
	"pianola/net"
)

// checks fails, unless Check answers this, and New beside it a state just if it is OK.
func checks(t *testing.T, n api.Net, want api.Errno) {
	t.Helper()
	if e := net.Check(n); e != want {
		t.Errorf("Check(%v): %v, not %v", n, e, want)
	}
	if s, e := net.New(n); e != want || (s != nil) != (want == api.OK) {
		t.Errorf("New(%v): %v %v, not %v", n, s, e, want)
	}
}

// alone is a net of three nodes and one arc from 1 to 2, with one thing set.
func alone(set func(a *api.Arc)) api.Net {
	n := api.Net{Nodes: 3, Arcs: []api.Arc{{From: 1, To: 2, Give: 3, Take: 4, Start: 5}}}
	set(&n.Arcs[0])
	return n
}

// span is what an arc's number may be, and what is answered if it is not.
type span struct {
	set         func(a *api.Arc, x int)
	least, most int
	code        api.Errno
}

// spans are in the order of P10.1.
func spans() []span {
	return []span{
		{func(a *api.Arc, x int) { a.From = x }, 0, 2, api.ErrNode},
		{func(a *api.Arc, x int) { a.To = x }, 0, 2, api.ErrNode},
		{func(a *api.Arc, x int) { a.Give = x }, 1, 64, api.ErrRate},
		{func(a *api.Arc, x int) { a.Take = x }, 1, 64, api.ErrRate},
		{func(a *api.Arc, x int) { a.Start = x }, 0, 256, api.ErrStart},
	}
}

// outside are numbers that a span does not have, those next to its ends first.
func (s span) outside() []int {
	return []int{s.least - 1, s.most + 1, least, least + 1, -257, 257, 1 << 32, greatest - 1, greatest}
}

// TestNodes is P10.1 and P10.3: how many nodes there may be, whatever the arcs.
func TestNodes(t *testing.T) {
	for nodes := -40; nodes <= 70; nodes++ {
		want := api.ErrNode
		if nodes >= 1 && nodes <= 32 {
			want = api.OK
		}
		checks(t, api.Net{Nodes: nodes}, want)
		checks(t, api.Net{Nodes: nodes, Arcs: []api.Arc{}}, want)
	}
	for _, nodes := range []int{least, -1, 0, 33, 1 << 32, 1<<32 + 1, greatest} {
		checks(t, api.Net{Nodes: nodes}, api.ErrNode)
		checks(t, api.Net{Nodes: nodes, Arcs: []api.Arc{{Give: 1, Take: 1}}}, api.ErrNode)
		checks(t, api.Net{Nodes: nodes, Arcs: make([]api.Arc, 97)}, api.ErrNode)
	}
	checks(t, api.Net{}, api.ErrNode)
}

// TestManyArcs is P10.1 and P10.3: how many arcs there may be, and that more than these are told ahead of what is wrong with one.
func TestManyArcs(t *testing.T) {
	for _, nodes := range []int{1, 32} {
		for _, many := range []int{0, 1, 95, 96} {
			checks(t, api.Net{Nodes: nodes, Arcs: slices.Repeat([]api.Arc{{Give: 1, Take: 1}}, many)}, api.OK)
		}
		for _, many := range []int{97, 98, 192, 1 << 16} {
			checks(t, api.Net{Nodes: nodes, Arcs: slices.Repeat([]api.Arc{{Give: 1, Take: 1}}, many)}, api.ErrMany)
			checks(t, api.Net{Nodes: nodes, Arcs: slices.Repeat([]api.Arc{{From: -1}}, many)}, api.ErrMany)
		}
	}
}

// TestSpans is P10.1 and P10.3: each number of an arc at both ends of what it may be, and beyond.
func TestSpans(t *testing.T) {
	for _, s := range spans() {
		for x := s.least; x <= s.most; x++ {
			checks(t, alone(func(a *api.Arc) { s.set(a, x) }), api.OK)
		}
		for _, x := range s.outside() {
			checks(t, alone(func(a *api.Arc) { s.set(a, x) }), s.code)
		}
	}
	for nodes := 1; nodes <= 32; nodes++ {
		last, past := api.Arc{From: nodes - 1, To: nodes - 1, Give: 1, Take: 1}, api.Arc{From: nodes, Give: 1, Take: 1}
		checks(t, api.Net{Nodes: nodes, Arcs: []api.Arc{last}}, api.OK)
		checks(t, api.Net{Nodes: nodes, Arcs: []api.Arc{past}}, api.ErrNode)
	}
}

// TestTwoFaults is P10.1: of two things that are wrong with one arc the one that is named first counts; of two arcs the earlier one, wherever it stands.
func TestTwoFaults(t *testing.T) {
	sound := alone(func(*api.Arc) {}).Arcs[0]
	for i, first := range spans() {
		for j, second := range spans() {
			for k := range first.outside() {
				x, y := first.outside()[k], second.outside()[k]
				if i < j {
					checks(t, alone(func(a *api.Arc) { first.set(a, x); second.set(a, y) }), first.code)
				}
				ahead, behind := sound, sound
				first.set(&ahead, x)
				second.set(&behind, y)
				checks(t, api.Net{Nodes: 3, Arcs: []api.Arc{ahead, behind}}, first.code)
				checks(t, api.Net{Nodes: 3, Arcs: []api.Arc{sound, sound, ahead, sound, behind, sound}}, first.code)
			}
		}
		last := slices.Repeat([]api.Arc{sound}, 96)
		first.set(&last[95], first.most+1)
		checks(t, api.Net{Nodes: 3, Arcs: last}, first.code)
	}
}

// TestMixedNets is P10.1 and P10.3: nets of which some numbers are changed, against a model that finds all that is wrong.
func TestMixedNets(t *testing.T) {
	c := chance(101)
	met := map[api.Errno]int{}
	for range 30000 {
		n := c.net()
		checks(t, n, api.OK)
		c.spoil(&n)
		want := firstFlaw(n)
		met[want]++
		checks(t, n, want)
		if t.Failed() {
			return
		}
	}
	for _, e := range []api.Errno{api.OK, api.ErrNode, api.ErrMany, api.ErrRate, api.ErrStart} {
		if met[e] < 300 {
			t.Errorf("%v: %d nets only", e, met[e])
		}
	}
}
