package witness_test

import (
	"slices"
	"testing"

	"pianola/api"
)

// TestExampleConfirm is P12.2: the chapter's examples.
func TestExampleConfirm(t *testing.T) {
	confirmIs(t, three(), []api.Step{along(0), along(1), back(2)}, api.OK)
	confirmIs(t, three(), []api.Step{along(2), back(1), back(0)}, api.OK)
	confirmIs(t, three(), []api.Step{along(3)}, api.OK)
	confirmIs(t, three(), []api.Step{back(3)}, api.OK)
	confirmIs(t, three(), []api.Step{along(0), back(4)}, api.ErrAlike)
	confirmIs(t, three(), []api.Step{along(0), back(0)}, api.ErrCycle)
	confirmIs(t, three(), []api.Step{along(0), along(1)}, api.ErrCycle)
	confirmIs(t, three(), nil, api.ErrCycle)
}

// TestOneStep is P12.2: an arc from a node to itself is a cycle, whatever its rates, along and back; any other arc alone is none.
func TestOneStep(t *testing.T) {
	for give := 1; give <= 64; give++ {
		for take := 1; take <= 64; take++ {
			n := api.Net{Nodes: 2, Arcs: []api.Arc{{From: 1, To: 1, Give: give, Take: take, Start: 256}, {From: 0, To: 1, Give: give, Take: take}}}
			code := api.OK
			if give == take {
				code = api.ErrAlike
			}
			confirmIs(t, n, []api.Step{along(0)}, code)
			confirmIs(t, n, []api.Step{back(0)}, code)
			confirmIs(t, n, []api.Step{along(1)}, api.ErrCycle)
			confirmIs(t, n, []api.Step{back(1)}, api.ErrCycle)
		}
	}
}

// TestTwoSteps is P12.2: two arcs between two nodes, whichever way each one leads, in each direction of the steps.
func TestTwoSteps(t *testing.T) {
	same := api.Net{Nodes: 2, Arcs: []api.Arc{{From: 0, To: 1, Give: 2, Take: 3}, {From: 0, To: 1, Give: 2, Take: 3}, {From: 0, To: 1, Give: 3, Take: 2}}}
	confirmIs(t, same, []api.Step{along(0), back(1)}, api.ErrAlike)
	confirmIs(t, same, []api.Step{back(0), along(1)}, api.ErrAlike)
	confirmIs(t, same, []api.Step{along(0), back(2)}, api.OK)
	confirmIs(t, same, []api.Step{back(2), along(0)}, api.OK)
	confirmIs(t, same, []api.Step{along(0), along(1)}, api.ErrCycle)
	confirmIs(t, same, []api.Step{back(0), back(1)}, api.ErrCycle)

	round := api.Net{Nodes: 2, Arcs: []api.Arc{{From: 0, To: 1, Give: 2, Take: 3}, {From: 1, To: 0, Give: 2, Take: 3}, {From: 1, To: 0, Give: 6, Take: 4}}}
	confirmIs(t, round, []api.Step{along(0), along(1)}, api.OK)
	confirmIs(t, round, []api.Step{back(0), back(1)}, api.OK)
	confirmIs(t, round, []api.Step{along(0), along(2)}, api.ErrAlike)
	confirmIs(t, round, []api.Step{back(2), back(0)}, api.ErrAlike)
	confirmIs(t, round, []api.Step{along(0), back(1)}, api.ErrCycle)
	confirmIs(t, round, []api.Step{back(1), along(0)}, api.ErrCycle)
}

// knot is a net with many ways around: two triangles that meet at node 2, arcs at 0 and at 2 to themselves, and an arc that leads away. None of its cycles is alike.
func knot() api.Net {
	return api.Net{Nodes: 6, Arcs: []api.Arc{
		{From: 0, To: 1, Give: 2, Take: 1},
		{From: 1, To: 2, Give: 3, Take: 1},
		{From: 2, To: 0, Give: 5, Take: 1},
		{From: 2, To: 3, Give: 7, Take: 1},
		{From: 3, To: 4, Give: 11, Take: 1},
		{From: 4, To: 2, Give: 13, Take: 1},
		{From: 0, To: 0, Give: 17, Take: 1},
		{From: 2, To: 2, Give: 19, Take: 1},
		{From: 4, To: 5, Give: 23, Take: 1},
		{From: 0, To: 0, Give: 29, Take: 1},
	}}
}

// TestNoCycle is P12.2: each thing that a cycle must not be, alone, beside the cycle that it is made of.
func TestNoCycle(t *testing.T) {
	first, second := []api.Step{along(0), along(1), along(2)}, []api.Step{along(3), along(4), along(5)}
	confirmIs(t, knot(), first, api.OK)
	confirmIs(t, knot(), second, api.OK)
	for _, c := range []struct {
		what  string
		steps []api.Step
	}{
		{"no step", nil},
		{"a row that does not lead home", first[:2]},
		{"a row that leads past its beginning", append(slices.Clone(first), along(6), along(0))},
		{"the end is not the beginning, though it was come by", append(slices.Clone(first[1:]), along(6), along(0), along(1), along(3))},
		{"a tail ahead of a cycle", append([]api.Step{along(0), along(1)}, second...)},
		{"a tail behind a cycle", append(slices.Clone(first), along(0))},
		{"a step that starts elsewhere, first", []api.Step{along(3), along(1), along(2)}},
		{"a step that starts elsewhere, in the middle", []api.Step{along(0), along(4), along(2)}},
		{"a step that starts elsewhere, last", []api.Step{along(0), along(1), along(5)}},
		{"a step the wrong way, first", []api.Step{back(0), along(1), along(2)}},
		{"a step the wrong way, in the middle", []api.Step{along(0), back(1), along(2)}},
		{"a step the wrong way, last", []api.Step{along(0), along(1), back(2)}},
		{"out of order", []api.Step{along(1), along(0), along(2)}},
		{"there and back", []api.Step{along(8), back(8)}},
		{"there and back, over two arcs", []api.Step{along(0), along(1), back(1), back(0)}},
		{"twice around", append(slices.Clone(first), first...)},
		{"both triangles: 2 twice", slices.Concat([]api.Step{along(0), along(1)}, second, []api.Step{along(2)})},
		{"both triangles, from 2 on: the first start twice", slices.Concat(second, []api.Step{along(2), along(0), along(1)})},
		{"an arc to itself on the way: 2 twice", []api.Step{along(0), along(1), along(7), along(2)}},
		{"an arc to itself ahead of the way: 0 twice", append([]api.Step{along(6)}, first...)},
		{"an arc to itself behind the way: 0 twice", append(slices.Clone(first), back(6))},
		{"an arc to itself, twice", []api.Step{along(6), along(6)}},
		{"an arc to itself, along and back", []api.Step{along(6), back(6)}},
		{"two arcs to itself: 0 twice", []api.Step{along(6), along(9)}},
		{"an arc that is none", []api.Step{along(0), along(1), along(10)}},
		{"an arc below 0", []api.Step{along(-1)}},
	} {
		t.Log(c.what)
		confirmIs(t, knot(), c.steps, api.ErrCycle)
		agrees(t, knot(), c.steps)
	}
}

// TestAllRows is P12.2: every row of up to four steps, such that name no arc among them, of small nets, against a model.
func TestAllRows(t *testing.T) {
	pair := api.Net{Nodes: 2, Arcs: []api.Arc{
		{From: 0, To: 1, Give: 2, Take: 1}, {From: 1, To: 0, Give: 1, Take: 2}, {From: 0, To: 1, Give: 5, Take: 2}, {From: 1, To: 1, Give: 3, Take: 3},
	}}
	square := api.Net{Nodes: 4, Arcs: []api.Arc{
		{From: 0, To: 1, Give: 2, Take: 1}, {From: 2, To: 1, Give: 3, Take: 1}, {From: 2, To: 3, Give: 6, Take: 4}, {From: 0, To: 3, Give: 1, Take: 1}, {From: 1, To: 3, Give: 1, Take: 2},
	}}
	met := map[api.Errno]int{}
	for _, n := range []api.Net{{Nodes: 1}, three(), pair, square} {
		steps := make([]api.Step, 0, 4)
		var every func(more int)
		every = func(more int) {
			agrees(t, n, steps)
			met[verdict(n, steps)]++
			if more == 0 {
				return
			}
			for arc := -1; arc <= len(n.Arcs); arc++ {
				for _, step := range []api.Step{along(arc), back(arc)} {
					steps = append(steps, step)
					every(more - 1)
					steps = steps[:len(steps)-1]
				}
			}
		}
		every(4)
	}
	if met[api.OK] < 20 || met[api.ErrAlike] < 20 || met[api.ErrCycle] < 1000 {
		t.Error("too few rows of a kind", met)
	}
}

// ring is a net of so many nodes, all around, and the steps along it.
func ring(nodes, give, take int) (api.Net, []api.Step) {
	n, steps := api.Net{Nodes: nodes}, []api.Step(nil)
	for node := range nodes {
		n.Arcs = append(n.Arcs, api.Arc{From: node, To: (node + 1) % nodes, Give: give, Take: take})
		steps = append(steps, along(node))
	}
	return n, steps
}

// TestGreatProducts is P12.2: products that would not fit, the same and a little apart, such that are apart by a multiple of 2^64 among them.
func TestGreatProducts(t *testing.T) {
	for nodes := 1; nodes <= 32; nodes++ {
		n, steps := ring(nodes, 64, 64)
		confirmIs(t, n, steps, api.ErrAlike)
		for at := range nodes {
			n.Arcs[at].Take = 63
			confirmIs(t, n, steps, api.OK)
			n.Arcs[at].Take = 64
		}
		n, steps = ring(nodes, 64, 1)
		confirmIs(t, n, steps, api.OK)
		n, steps = ring(nodes, 1, 64)
		confirmIs(t, n, steps, api.OK)
	}

	wrapped, steps := ring(32, 64, 32) // 2^192 against 2^160: cut off to 64 bits both are 0
	confirmIs(t, wrapped, steps, api.OK)

	spread, steps := ring(30, 1, 1) // 2^30 3^30 5^30 against 30^30, the factors far from one another
	for i := range 30 {
		spread.Arcs[i].Give = []int{2, 3, 5}[i/10]
		spread.Arcs[i].Take = 1
	}
	for i := range 10 {
		spread.Arcs[i*3].Take = 30
	}
	confirmIs(t, spread, steps, api.ErrAlike)
	spread.Arcs[29].Give = 1
	confirmIs(t, spread, steps, api.OK)

	near, steps := ring(32, 63, 63) // 63^32 against 63^31 times 62
	confirmIs(t, near, steps, api.ErrAlike)
	near.Arcs[31].Take = 62
	confirmIs(t, near, steps, api.OK)
}

// TestManyCycles is P12.2: cycles of each length in nets of any other arcs, alike or not, and with one thing changed, against a model.
func TestManyCycles(t *testing.T) {
	c := chance(122)
	met, longest := map[api.Errno]int{}, map[api.Errno]int{}
	for round := range 6400 {
		n, steps := c.cycle(1+round%32, c.below(2) == 0)
		agrees(t, n, steps)
		code := verdict(n, steps)
		met[code]++
		longest[code] = max(longest[code], len(steps))
		if code == api.ErrCycle {
			t.Fatal("no cycle", n, steps)
		}
		switch other := slices.Clone(steps); c.below(6) {
		case 0:
			agrees(t, n, other[:len(other)-1])
		case 1:
			agrees(t, n, append(other, other[c.below(len(other))]))
		case 2:
			other[c.below(len(other))] = c.steps(n, 1)[0]
			agrees(t, n, other)
		case 3:
			mix(&c, other)
			agrees(t, n, other)
		case 4:
			agrees(t, n, slices.Insert(other, c.below(len(other)+1), c.steps(n, 1)...))
		case 5:
			a := &n.Arcs[other[0].Arc]
			a.Give = max(1, a.Give-1)
			agrees(t, n, other)
		}
	}
	if met[api.OK] < 1000 || met[api.ErrAlike] < 1000 || longest[api.OK] != 32 || longest[api.ErrAlike] != 32 {
		t.Error("too few cycles of a kind", met, longest)
	}
}

// TestStartsDoNotCount is P12.1 and P12.2: whatever tokens there are at the start, the answers are the same.
func TestStartsDoNotCount(t *testing.T) {
	c := chance(123)
	for round := range 640 {
		n, steps := c.cycle(1+round%32, c.below(2) == 0)
		with, against := productsOf(n, steps)
		code := verdict(n, steps)
		for _, start := range []int{0, 1, 256} {
			for i := range n.Arcs {
				n.Arcs[i].Start = start
			}
			productsAre(t, n, steps, with, against, api.OK)
			confirmIs(t, n, steps, code)
		}
	}
}

// TestConfirmLong is P12.2: too many steps are no cycle; ErrLong is not Confirm's.
func TestConfirmLong(t *testing.T) {
	n, steps := ring(32, 2, 1)
	for _, times := range []int{2, 3, 4, 33} {
		confirmIs(t, n, slices.Repeat(steps, times), api.ErrCycle)
	}
	loop := api.Net{Nodes: 1, Arcs: make([]api.Arc, 96)}
	var all []api.Step
	for i := range loop.Arcs {
		loop.Arcs[i] = api.Arc{Give: 2, Take: 1}
		all = append(all, along(i))
	}
	confirmIs(t, loop, all, api.ErrCycle)
	confirmIs(t, loop, append(all, along(0)), api.ErrCycle)
	confirmIs(t, loop, slices.Repeat(all, 20000), api.ErrCycle)
	confirmIs(t, loop, slices.Repeat([]api.Step{back(-1)}, 1<<20), api.ErrCycle)
	confirmIs(t, api.Net{Nodes: 1}, make([]api.Step, 1<<20), api.ErrCycle)
}
