package forest_test

import (
	"slices"
	"testing"

	"pianola/api"
	"pianola/forest"
	"pianola/net"
)

// five is the net of the chapter's examples.
func five() api.Net { return linked(5, ends{0, 1}, ends{1, 1}, ends{2, 1}, ends{0, 2}, ends{4, 3}) }

// TestExampleOf is P11.1: the chapter's example.
func TestExampleOf(t *testing.T) {
	ofIs(t, five(), api.Forest{Tree: []int{0, 2, 4}, Home: []int{0, 0, 0, 3, 3}})
}

// TestOfByHand is P11.1: nets whose forests can be told by looking.
func TestOfByHand(t *testing.T) {
	for _, c := range []struct {
		what string
		n    api.Net
		tree []int
		home []int
	}{
		{"one node", linked(1), nil, []int{0}},
		{"nodes and no arc", linked(4), nil, []int{0, 1, 2, 3}},
		{"an arc to itself", linked(1, ends{0, 0}), nil, []int{0}},
		{"arcs to itself ahead and behind", linked(2, ends{1, 1}, ends{0, 1}, ends{0, 0}), []int{1}, []int{0, 0}},
		{"two nodes, along", linked(2, ends{0, 1}), []int{0}, []int{0, 0}},
		{"two nodes, back", linked(2, ends{1, 0}), []int{0}, []int{0, 0}},
		{"the same way, three times", linked(2, ends{0, 1}, ends{0, 1}, ends{0, 1}), []int{0}, []int{0, 0}},
		{"the other way about", linked(2, ends{1, 0}, ends{0, 1}), []int{0}, []int{0, 0}},
		{"around", linked(3, ends{0, 1}, ends{1, 2}, ends{2, 0}), []int{0, 1}, []int{0, 0, 0}},
		{"around, the last first", linked(3, ends{2, 0}, ends{1, 2}, ends{0, 1}), []int{0, 1}, []int{0, 0, 0}},
		{"a square and its middle", linked(4, ends{0, 1}, ends{2, 3}, ends{1, 3}, ends{0, 2}, ends{3, 0}), []int{0, 1, 2}, []int{0, 0, 0, 0}},
		{"the last one joins", linked(4, ends{2, 3}, ends{3, 2}, ends{1, 0}, ends{0, 1}, ends{3, 1}), []int{0, 2, 4}, []int{0, 0, 0, 0}},
		{"from both ends on", linked(5, ends{4, 3}, ends{0, 1}, ends{3, 2}, ends{1, 2}, ends{4, 0}), []int{0, 1, 2, 3}, []int{0, 0, 0, 0, 0}},
		{"apart, the lesser ones mixed", linked(6, ends{5, 1}, ends{4, 2}, ends{2, 5}, ends{3, 0}), []int{0, 1, 2, 3}, []int{0, 1, 1, 0, 1, 1}},
		{"some not reached", linked(7, ends{6, 4}, ends{4, 6}, ends{2, 4}), []int{0, 2}, []int{0, 1, 2, 3, 2, 5, 2}},
		{"the last two nodes alone", linked(32, ends{31, 30}), []int{0}, append(upTo(31), 30)},
	} {
		t.Log(c.what)
		ofIs(t, c.n, api.Forest{Tree: c.tree, Home: c.home})
		agrees(t, c.n)
	}
}

// TestAllSmallNets is P11.1 and P11.2: every net of up to four nodes and few arcs, in every order of these.
func TestAllSmallNets(t *testing.T) {
	for nodes, arcs := range []int{1: 3, 2: 6, 3: 4, 4: 4} {
		var every func(n api.Net, more int)
		every = func(n api.Net, more int) {
			agrees(t, n)
			for kind := range nodes * nodes * min(1, more) {
				every(linkedOn(n, ends{kind / nodes, kind % nodes}), more-1)
			}
		}
		if nodes > 0 {
			every(linked(nodes), arcs)
		}
	}
}

// linkedOn is a net with one arc more.
func linkedOn(n api.Net, two ends) api.Net {
	return api.Net{Nodes: n.Nodes, Arcs: append(slices.Clip(n.Arcs), linked(n.Nodes, two).Arcs...)}
}

// TestManyNets is P11.1 and P11.2: many nets, the greatest ones and trees among them, against a model.
func TestManyNets(t *testing.T) {
	c := chance(111)
	components := map[int]int{}
	for _, n := range manyNets(&c, 200) {
		agrees(t, n)
		homes := slices.Compact(slices.Sorted(slices.Values(forestOf(n).Home)))
		components[min(3, len(homes))]++
	}
	if components[1] < 50 || components[2] < 10 || components[3] < 50 {
		t.Error("too few nets of a kind", components)
	}
}

// TestLastArc is P11.1 and P11.2: the last arc of 96 may be the one that joins, whatever stands ahead of it.
func TestLastArc(t *testing.T) {
	for _, ahead := range []ends{{0, 0}, {31, 31}, {0, 30}, {1, 31}, {2, 3}} {
		for _, last := range []ends{{0, 31}, {31, 0}} {
			n := linked(32, append(slices.Repeat([]ends{ahead}, 95), last)...)
			agrees(t, n)
			if f := forestOK(t, n); !slices.Contains(f.Tree, 95) {
				t.Fatalf("%v: %v", n, f)
			}
			pathIs(t, n, 0, 31, []api.Step{{Arc: 95, Back: last[0] == 31}}, api.OK)
		}
	}
}

// TestRatesDoNotCount is P11.1 and P11.2: whatever the rates and the tokens, and whichever way an arc leads, the forest is the same; steps along a turned arc are turned.
func TestRatesDoNotCount(t *testing.T) {
	c := chance(112)
	for _, n := range manyNets(&c, 60) {
		other := api.Net{Nodes: n.Nodes, Arcs: slices.Clone(n.Arcs)}
		turned := map[int]bool{}
		for i := range other.Arcs {
			a := &other.Arcs[i]
			a.Give, a.Take, a.Start = pick(&c, 1, 2, 64), pick(&c, 1, 3, 64), pick(&c, 0, 1, 256)
			if c.below(2) == 0 && a.From != a.To {
				a.From, a.To = a.To, a.From
				turned[i] = true
			}
		}
		ofIs(t, other, forestOf(n))
		for range 40 {
			from, to := c.below(n.Nodes), c.below(n.Nodes)
			steps, e := forest.Path(n, from, to)
			for i, step := range steps {
				steps[i].Back = step.Back != turned[step.Arc]
			}
			pathIs(t, other, from, to, steps, e)
		}
	}
}

// TestRefused is P11.1 and P11.2: each thing for which net.Check refuses a net, and nothing beside the error.
func TestRefused(t *testing.T) {
	arc := func(set func(a *api.Arc)) api.Net {
		n := five()
		set(&n.Arcs[3])
		return n
	}
	for _, c := range []struct {
		n    api.Net
		code api.Errno
	}{
		{api.Net{}, api.ErrNode},
		{linked(-1), api.ErrNode},
		{linked(least), api.ErrNode},
		{linked(33), api.ErrNode},
		{linked(greatest, ends{0, 1}), api.ErrNode},
		{linked(0, ends{0, 0}), api.ErrNode},
		{linked(5, make([]ends, 97)...), api.ErrMany},
		{linked(5, slices.Repeat([]ends{{5, 5}}, 97)...), api.ErrMany},
		{arc(func(a *api.Arc) { a.From = -1 }), api.ErrNode},
		{arc(func(a *api.Arc) { a.From = 5 }), api.ErrNode},
		{arc(func(a *api.Arc) { a.From = greatest }), api.ErrNode},
		{arc(func(a *api.Arc) { a.To = least }), api.ErrNode},
		{arc(func(a *api.Arc) { a.To = -1 }), api.ErrNode},
		{arc(func(a *api.Arc) { a.To = 5 }), api.ErrNode},
		{arc(func(a *api.Arc) { a.Give = 0 }), api.ErrRate},
		{arc(func(a *api.Arc) { a.Give = 65 }), api.ErrRate},
		{arc(func(a *api.Arc) { a.Take = 0 }), api.ErrRate},
		{arc(func(a *api.Arc) { a.Take = 65 }), api.ErrRate},
		{arc(func(a *api.Arc) { a.Start = -1 }), api.ErrStart},
		{arc(func(a *api.Arc) { a.Start = 257 }), api.ErrStart},
	} {
		if e := net.Check(c.n); e != c.code {
			t.Fatalf("%v: %v", c.n, e)
		}
		refused(t, c.n, 0, 0, c.code)
		refused(t, c.n, 0, 2, c.code)
	}
	for nodes := 1; nodes <= 32; nodes++ {
		agrees(t, linked(nodes, make([]ends, 96)...))
	}
}

// TestMixedRefused is P11.1 and P11.2: nets of which some numbers are changed have net.Check's error, or the model's forest.
func TestMixedRefused(t *testing.T) {
	c := chance(113)
	met := map[api.Errno]int{}
	for range 8000 {
		n := c.net()
		c.spoil(&n)
		e := net.Check(n)
		met[e]++
		if e == api.OK {
			ofIs(t, n, forestOf(n))
		} else {
			refused(t, n, pick(&c, least, -1, 0, 1, 33, greatest), pick(&c, least, -1, 0, 1, 33, greatest), e)
		}
	}
	for _, e := range []api.Errno{api.OK, api.ErrNode, api.ErrMany, api.ErrRate, api.ErrStart} {
		if met[e] < 100 {
			t.Errorf("%v: %d nets only", e, met[e])
		}
	}
}
