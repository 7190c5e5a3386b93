package net_test

import (
	"slices"
	"testing"

	"pianola/api"
	"pianola/net"
)

// pair is the chapter's net of two nodes.
func pair() api.Net {
	return api.Net{Nodes: 2, Arcs: []api.Arc{{From: 0, To: 1, Give: 2, Take: 3}, {From: 1, To: 0, Give: 3, Take: 2, Start: 4}}}
}

// loop is a net of one node and an arc from it to itself.
func loop(give, take, start int) api.Net {
	return api.Net{Nodes: 1, Arcs: []api.Arc{{Give: give, Take: take, Start: start}}}
}

// tells fails, unless May and Short of a node are this.
func tells(t *testing.T, s *net.State, node int, may bool, short int) {
	t.Helper()
	if s.May(node) != may || s.Short(node) != short {
		t.Errorf("May(%d) is %v, Short %d, not %v, %d", node, s.May(node), s.Short(node), may, short)
	}
}

// nobody fails, unless what names no node may not fire, and is short of nothing.
func nobody(t *testing.T, s *net.State, nodes int) {
	t.Helper()
	for _, node := range []int{least, least + 1, -32, -2, -1, nodes, nodes + 1, 64, 1 << 32, greatest} {
		tells(t, s, node, false, -1)
	}
}

// TestExamples is the chapter's examples.
func TestExamples(t *testing.T) {
	s, _ := begun(t, pair())
	tells(t, s, 0, true, -1)
	tells(t, s, 1, false, 0)
	tells(t, s, 2, false, -1)
	tells(t, s, -1, false, -1)
	fires(t, s, 2, 0, 0, 0)
	has(t, s, []int{4, 0}, []int{2, 0})
	fires(t, s, 3, 1, 0, 1)
	has(t, s, []int{0, 4}, []int{3, 2})
	tells(t, s, 0, true, -1)
	tells(t, s, 1, false, 0)

	s, _ = begun(t, loop(1, 1, 0))
	tells(t, s, 0, false, 0)
	fires(t, s, 0, 0)
	has(t, s, []int{0}, []int{0})
	s, _ = begun(t, loop(1, 1, 1))
	for i := range 100 {
		tells(t, s, 0, true, -1)
		fires(t, s, 1, 0)
		has(t, s, []int{1}, []int{i + 1})
	}
}

// TestAtStart is P10.3 and P10.6: a new state has what the net says, and nothing has fired.
func TestAtStart(t *testing.T) {
	n := api.Net{Nodes: 32}
	for i := range 96 {
		n.Arcs = append(n.Arcs, api.Arc{From: i % 32, To: (7 * i) % 32, Give: 1 + i%64, Take: 64 - i%64, Start: (i * 19) % 257})
	}
	for many := range 97 {
		part := api.Net{Nodes: 32, Arcs: n.Arcs[:many]}
		s, m := begun(t, part)
		agrees(t, s, m)
		if slices.Max(s.Fired()) != 0 || len(s.Fired()) != 32 || len(s.Counts()) != many {
			t.Fatal(s.Fired(), s.Counts())
		}
	}
}

// TestNoInArc is P10.4: a node without in-arcs always may fire, and is never short.
func TestNoInArc(t *testing.T) {
	for nodes := 1; nodes <= 32; nodes++ {
		s, _ := begun(t, api.Net{Nodes: nodes})
		for node := range nodes {
			tells(t, s, node, true, -1)
		}
		nobody(t, s, nodes)
		has(t, s, nil, make([]int, nodes))
	}
	s, _ := begun(t, api.Net{Nodes: 2, Arcs: []api.Arc{{From: 1, To: 0, Give: 64, Take: 64}}})
	tells(t, s, 1, true, -1)
	tells(t, s, 0, false, 0)
	for i := range 1000 {
		fires(t, s, 1, 1)
		tells(t, s, 1, true, -1)
		has(t, s, []int{64 * (i + 1)}, []int{0, i + 1})
	}
}

// TestSeveralInArcs is P10.4: a node may fire when each of its in-arcs has enough, and is short of the first that has not; those of other nodes do not count.
func TestSeveralInArcs(t *testing.T) {
	for has := range 32 {
		n := api.Net{Nodes: 3, Arcs: []api.Arc{{From: 0, To: 2, Give: 1, Take: 64}}}
		want := -1
		for bit := range 5 {
			arc := api.Arc{From: 2 * (bit % 2), To: 1, Give: 1, Take: 10 + bit, Start: 9 + bit}
			arc.Start += has >> bit & 1
			if has>>bit&1 == 0 && want < 0 {
				want = len(n.Arcs)
			}
			n.Arcs = append(n.Arcs, arc, api.Arc{From: 1, To: 2, Give: 1, Take: 64})
		}
		s, _ := begun(t, n)
		tells(t, s, 0, true, -1)
		tells(t, s, 1, want < 0, want)
		tells(t, s, 2, false, 0)
	}
}

// TestFewerThanTake is P10.4: an arc with just Take tokens has enough, with one fewer it has not, whatever it is given.
func TestFewerThanTake(t *testing.T) {
	for take := 1; take <= 64; take++ {
		for start := range 257 {
			short := -1
			if start < take {
				short = 0
			}
			s, _ := begun(t, api.Net{Nodes: 2, Arcs: []api.Arc{{From: 0, To: 1, Give: 64, Take: take, Start: start}}})
			tells(t, s, 1, short < 0, short)
			s, _ = begun(t, loop(64, take, start))
			tells(t, s, 0, short < 0, short)
		}
	}
}

// TestToItself is P10.4 and P10.5: an arc from a node to itself is both an in-arc and an out-arc; the node takes ahead of giving.
func TestToItself(t *testing.T) {
	for give := 1; give <= 64; give += 3 {
		for take := 1; take <= 64; take += 3 {
			for _, start := range []int{0, 1, take - 1, take, take + 1, 64, 256} {
				s, m := begun(t, loop(give, take, start))
				agrees(t, s, m)
				for range 5 {
					fires(t, s, m.fire(0, 0, 0), 0, 0, 0)
					agrees(t, s, m)
				}
			}
		}
	}
	s, _ := begun(t, loop(5, 3, 2))
	fires(t, s, 0, 0)
	has(t, s, []int{2}, []int{0})
	s, _ = begun(t, loop(3, 5, 9))
	fires(t, s, 3, 0, 0, 0, 0)
	has(t, s, []int{3}, []int{3})
	tells(t, s, 0, false, 0)
}

// TestFireNothing is P10.5: of no nodes none fires.
func TestFireNothing(t *testing.T) {
	s, _ := begun(t, pair())
	fires(t, s, 0)
	fires(t, s, 0, []int{}...)
	has(t, s, []int{0, 4}, []int{0, 0})
}

// TestFireEnds is P10.5 and P10.6: it ends at the first that may not fire or names no node, first, in the middle or last; what stands behind that does not fire, what stands ahead has.
func TestFireEnds(t *testing.T) {
	for _, bad := range []int{1, least, -1, 2, 33, greatest} {
		s, _ := begun(t, pair())
		fires(t, s, 0, bad)
		fires(t, s, 0, bad, 0, 0, 1)
		has(t, s, []int{0, 4}, []int{0, 0})
		fires(t, s, 1, 0, bad, 0)
		has(t, s, []int{2, 2}, []int{1, 0})
		if bad == 1 {
			fires(t, s, 2, 0, bad, bad)
		} else {
			fires(t, s, 2, 0, 1, bad)
		}
		has(t, s, []int{1, 3}, []int{2, 1})
		tells(t, s, 0, true, -1)
		tells(t, s, 1, false, 0)
	}
}

// TestFireLast is P10.5: the last one of a row may be the one that may not fire.
func TestFireLast(t *testing.T) {
	s, _ := begun(t, pair())
	fires(t, s, 5, 0, 0, 1, 0, 1, 1)
	has(t, s, []int{0, 4}, []int{3, 2})
	fires(t, s, 5, 0, 0, 1, 0, 1)
	has(t, s, []int{0, 4}, []int{6, 4})
}

// TestFireManyTimes is P10.5 and P10.6: the same node, as long as its in-arc lasts, or for ever if it has none.
func TestFireManyTimes(t *testing.T) {
	s, _ := begun(t, api.Net{Nodes: 2, Arcs: []api.Arc{{From: 1, To: 0, Give: 1, Take: 1, Start: 256}}})
	fires(t, s, 256, make([]int, 5000)...)
	has(t, s, []int{0}, []int{256, 0})
	fires(t, s, 0, make([]int, 5000)...)

	s, _ = begun(t, api.Net{Nodes: 2, Arcs: []api.Arc{{From: 1, To: 0, Give: 64, Take: 1, Start: 256}}})
	fires(t, s, 100000, slices.Repeat([]int{1}, 100000)...)
	has(t, s, []int{6400256}, []int{0, 100000})
	fires(t, s, 6400256, make([]int, 6400257)...)
	has(t, s, []int{0}, []int{6400256, 100000})
}

// TestOneByOne is P10.5: a row fires as its nodes one by one do.
func TestOneByOne(t *testing.T) {
	c := chance(105)
	for range 2000 {
		n := c.net()
		whole, _ := begun(t, n)
		single, _ := begun(t, n)
		row := slices.Concat(c.row(n), c.row(n), c.row(n))
		fired := 0
		for _, node := range row {
			if single.Fire(node) == 0 {
				break
			}
			fired++
		}
		fires(t, whole, fired, row...)
		has(t, whole, single.Counts(), single.Fired())
	}
}

// TestMixedRows is P10.4, P10.5 and P10.6: many rows on many nets, against a model that knows of firings alone.
func TestMixedRows(t *testing.T) {
	c := chance(104)
	ended, whole := 0, 0
	for range 2500 {
		n := c.net()
		s, m := begun(t, n)
		agrees(t, s, m)
		for range 8 {
			row := c.row(n)
			want := m.fire(row...)
			fires(t, s, want, row...)
			agrees(t, s, m)
			if want < len(row) {
				ended++
			} else {
				whole++
			}
			if len(ready(s, n)) > 0 {
				row = []int{pick(&c, ready(s, n)...)}
				fires(t, s, m.fire(row...), row...)
			}
		}
		agrees(t, s, m)
	}
	if ended < 2000 || whole < 2000 {
		t.Errorf("%d rows ended early, %d did not", ended, whole)
	}
}

// TestNil is R2: a nil state answers zero values, whatever it is asked; Short is 0, too.
func TestNil(t *testing.T) {
	var s *net.State
	for _, node := range []int{least, -1, 0, 1, 31, 32, greatest} {
		tells(t, s, node, false, 0)
		fires(t, s, 0, node)
		fires(t, s, 0, node, 0, 0)
	}
	fires(t, s, 0)
	has(t, s, nil, nil)
	failed, e := net.New(api.Net{})
	if failed != nil || e != api.ErrNode {
		t.Error(failed, e)
	}
	tells(t, failed, 0, false, 0)
}

// TestNotMade is R1: a state that New did not make has no nodes, and does not panic.
func TestNotMade(t *testing.T) {
	s := &net.State{}
	tells(t, s, 0, false, -1)
	nobody(t, s, 0)
	fires(t, s, 0, 0, 1)
	has(t, s, nil, nil)
}
