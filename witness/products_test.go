package witness_test

import (
	"slices"
	"testing"

	"pianola/api"
	"pianola/net"
)

// three is the net of the chapter's examples.
func three() api.Net {
	return api.Net{Nodes: 3, Arcs: []api.Arc{
		{From: 0, To: 1, Give: 2, Take: 3},
		{From: 1, To: 2, Give: 3, Take: 1},
		{From: 0, To: 2, Give: 1, Take: 1},
		{From: 2, To: 2, Give: 2, Take: 1},
		{From: 0, To: 1, Give: 4, Take: 6},
	}}
}

// TestExampleProducts is P12.1: the chapter's example.
func TestExampleProducts(t *testing.T) {
	productsAre(t, three(), []api.Step{along(0), along(1), back(2)}, []int{2, 3, 1}, []int{3, 1, 1}, api.OK)
}

// TestProductsByHand is P12.1: step by step, whether the steps are a path or not.
func TestProductsByHand(t *testing.T) {
	for _, c := range []struct {
		what          string
		steps         []api.Step
		with, against []int
	}{
		{"no step", nil, nil, nil},
		{"one along", []api.Step{along(0)}, []int{2}, []int{3}},
		{"one back", []api.Step{back(0)}, []int{3}, []int{2}},
		{"the last arc", []api.Step{along(4), back(4)}, []int{4, 6}, []int{6, 4}},
		{"an arc to itself", []api.Step{along(3), back(3)}, []int{2, 1}, []int{1, 2}},
		{"no path: the wrong way round", []api.Step{along(1), along(0)}, []int{3, 2}, []int{1, 3}},
		{"no path: both away", []api.Step{back(0), back(4)}, []int{3, 6}, []int{2, 4}},
		{"a path that does not lead home", []api.Step{along(0), along(1)}, []int{2, 3}, []int{3, 1}},
		{"the same step, three times", []api.Step{back(1), back(1), back(1)}, []int{1, 1, 1}, []int{3, 3, 3}},
		{"all", []api.Step{back(4), along(3), back(2), along(1), along(0)}, []int{6, 2, 1, 3, 2}, []int{4, 1, 1, 1, 3}},
	} {
		t.Log(c.what)
		productsAre(t, three(), c.steps, c.with, c.against, api.OK)
		agrees(t, three(), c.steps)
	}
	productsAre(t, api.Net{Nodes: 1}, nil, nil, nil, api.OK)
	productsAre(t, api.Net{Nodes: 32}, nil, nil, nil, api.OK)
}

// TestProductsLong is P12.1: MaxEdges steps and one more, of nets of few arcs and of many, ErrLong ahead of ErrCycle.
func TestProductsLong(t *testing.T) {
	loop := api.Net{Nodes: 1, Arcs: []api.Arc{{Give: 7, Take: 64}}}
	for _, many := range []int{95, 96} {
		productsAre(t, loop, slices.Repeat([]api.Step{along(0)}, many), slices.Repeat([]int{7}, many), slices.Repeat([]int{64}, many), api.OK)
		productsAre(t, loop, slices.Repeat([]api.Step{back(0)}, many), slices.Repeat([]int{64}, many), slices.Repeat([]int{7}, many), api.OK)
	}
	full := api.Net{Nodes: 32, Arcs: slices.Repeat([]api.Arc{{From: 31, To: 0, Give: 64, Take: 1}}, 96)}
	var all []api.Step
	for arc := range 96 {
		all = append(all, along(arc))
	}
	productsAre(t, full, all, slices.Repeat([]int{64}, 96), slices.Repeat([]int{1}, 96), api.OK)
	for _, n := range []api.Net{loop, full, three(), {Nodes: 1}} {
		for _, many := range []int{97, 98, 1024, 1025, 1 << 20} {
			productsAre(t, n, slices.Repeat([]api.Step{along(0)}, many), nil, nil, api.ErrLong)
			productsAre(t, n, slices.Repeat([]api.Step{back(-1)}, many), nil, nil, api.ErrLong)
		}
		productsAre(t, n, append(slices.Repeat([]api.Step{along(0)}, 96), along(96)), nil, nil, api.ErrLong)
	}
}

// TestProductsOfNoArc is P12.1: an Arc that names none, below 0 and past the last one, at each place of the steps, along and back.
func TestProductsOfNoArc(t *testing.T) {
	for _, n := range []api.Net{{Nodes: 1}, {Nodes: 32}, three(), {Nodes: 2, Arcs: make96(0, 1)}} {
		for _, none := range []int{least, least + 1, -1 << 32, -96, -1, len(n.Arcs), len(n.Arcs) + 1, 97, 1 << 32, greatest - 1, greatest} {
			for _, step := range []api.Step{along(none), back(none)} {
				productsAre(t, n, []api.Step{step}, nil, nil, api.ErrCycle)
				productsAre(t, n, slices.Repeat([]api.Step{step}, 96), nil, nil, api.ErrCycle)
				for place := range 4 * min(1, len(n.Arcs)) {
					steps := []api.Step{along(0), back(0), along(0)}
					productsAre(t, n, slices.Insert(steps, place, step), nil, nil, api.ErrCycle)
				}
			}
		}
	}
}

// make96 are as many arcs as a net may have, all between these two.
func make96(from, to int) []api.Arc {
	return slices.Repeat([]api.Arc{{From: from, To: to, Give: 3, Take: 5}}, 96)
}

// wrong are nets of each kind that net.Check refuses.
func wrong() map[api.Errno][]api.Net {
	arc := func(set func(a *api.Arc)) api.Net {
		n := three()
		set(&n.Arcs[4])
		return n
	}
	return map[api.Errno][]api.Net{
		api.ErrNode: {
			{}, {Nodes: -1}, {Nodes: least}, {Nodes: 33}, {Nodes: greatest, Arcs: three().Arcs}, {Arcs: three().Arcs}, {Nodes: 2, Arcs: three().Arcs},
			arc(func(a *api.Arc) { a.From = -1 }), arc(func(a *api.Arc) { a.From = 3 }), arc(func(a *api.Arc) { a.From = greatest }),
			arc(func(a *api.Arc) { a.To = -1 }), arc(func(a *api.Arc) { a.To = 3 }), arc(func(a *api.Arc) { a.To = least }),
		},
		api.ErrMany: {
			{Nodes: 3, Arcs: append(make96(0, 1), three().Arcs[0])}, {Nodes: 3, Arcs: make([]api.Arc, 97)},
		},
		api.ErrRate: {
			arc(func(a *api.Arc) { a.Give = 0 }), arc(func(a *api.Arc) { a.Give = 65 }), arc(func(a *api.Arc) { a.Give = least }),
			arc(func(a *api.Arc) { a.Take = 0 }), arc(func(a *api.Arc) { a.Take = 65 }), arc(func(a *api.Arc) { a.Take = greatest }),
		},
		api.ErrStart: {
			arc(func(a *api.Arc) { a.Start = -1 }), arc(func(a *api.Arc) { a.Start = 257 }),
		},
	}
}

// TestRefused is P12.1 and P12.2: each thing for which net.Check refuses a net, ahead of whatever is wrong with the steps, and nothing beside the error.
func TestRefused(t *testing.T) {
	for code, nets := range wrong() {
		for _, n := range nets {
			if e := net.Check(n); e != code {
				t.Fatalf("%v: %v", n, e)
			}
			for _, steps := range [][]api.Step{
				nil,
				{along(0), along(1), back(2)},
				{along(3)},
				{along(0), back(4)},
				{along(0), along(1)},
				{along(-1)},
				{back(97)},
				make([]api.Step, 96),
				make([]api.Step, 97),
				slices.Repeat([]api.Step{back(greatest)}, 2000),
			} {
				refused(t, n, steps, code)
			}
		}
	}
}

// TestMixed is P12.1 and P12.2: any steps of any nets, of which some numbers are changed, against a model.
func TestMixed(t *testing.T) {
	c := chance(121)
	met := map[api.Errno]int{}
	for range 20000 {
		n := c.net()
		if c.below(3) > 0 {
			c.spoil(&n)
		}
		steps := c.steps(n, c.below(pick(&c, 2, 4, 40, 110)))
		e := net.Check(n)
		met[e]++
		if e == api.OK {
			agrees(t, n, steps)
		} else {
			refused(t, n, steps, e)
		}
	}
	for _, e := range []api.Errno{api.OK, api.ErrNode, api.ErrMany, api.ErrRate, api.ErrStart} {
		if met[e] < 100 {
			t.Errorf("%v: %d nets only", e, met[e])
		}
	}
}
