package simul_test

import (
	"slices"
	"testing"

	"pianola/api"
	"pianola/balance"
	"pianola/net"
	"pianola/stuck"
)

// smallNets are all of two nodes and two arcs, with rates up to 2 and starts up to 3.
func smallNets() []api.Net {
	var arcs []api.Arc
	for i := range 64 {
		arcs = append(arcs, arc(i%2, i/2%2, 1+i/4%2, 1+i/8%2, i/16))
	}
	var all []api.Net
	for _, a := range arcs {
		for _, b := range arcs {
			all = append(all, netOf(2, a, b))
		}
	}
	return all
}

// goesOn fails, unless the list has each node as often as its count and fires period by period, with each arc as it began behind each.
func goesOn(t *testing.T, n api.Net, reps, row []int) {
	t.Helper()
	counts := make([]int, n.Nodes)
	for _, node := range row {
		counts[node]++
	}
	if !slices.Equal(counts, reps) {
		t.Fatalf("%v: %v has each node %v times, not %v", n, head(row), counts, reps)
	}
	s := start(t, n)
	begun := s.Counts()
	for period := range 4 {
		if done := s.Fire(row...); done != len(row) || !slices.Equal(s.Counts(), begun) {
			t.Fatalf("%v: of %v, in period %d, %d fire, and the arcs have %v", n, head(row), period, done, s.Counts())
		}
	}
	if !slices.Equal(s.Fired(), times(reps, 4)) {
		t.Fatalf("%v: %v, not 4 times %v", n, s.Fired(), reps)
	}
}

// holds fails, unless the blocks are confirmed, rise, and each is of a node that has not come to its count.
func holds(t *testing.T, n api.Net, reps []int, blocks []api.Block) {
	t.Helper()
	if e := stuck.Confirm(n, blocks...); e != api.OK {
		t.Fatalf("%v: %v: %v", n, blocks, e)
	}
	for i, b := range blocks {
		if b.Fired < 0 || b.Fired >= reps[b.Node] || i > 0 && blocks[i-1].Node >= b.Node {
			t.Fatalf("%v, %v: %v", n, reps, blocks)
		}
	}
}

// TestLists is P15.3: what a list has, and that it goes on period by period.
func TestLists(t *testing.T) {
	c := chance(152)
	met := 0
	for range 3000 {
		n, reps := c.period(c.sizes())
		p := answer(t, n, reps, c.prefer(n.Nodes))
		if len(p.List) == 0 {
			continue
		}
		met++
		goesOn(t, n, reps, p.List)
	}
	if met < 1000 {
		t.Errorf("%d lists only", met)
	}
}

// farther fires nodes in any order, as far as they may and each at most so often.
func farther(c *chance, s *net.State, most []int) {
	for going := true; going; {
		going = false
		for _, node := range c.order(len(most)) {
			for many := 1 + c.below(9); many > 0 && s.Fired()[node] < most[node] && s.Fire(node) == 1; many-- {
				going = true
			}
		}
	}
}

// TestStuck is P15.3: blocks are confirmed, each Fired is less than the node's count, and in no order does a node of a block fire more often than it says, even if others fire on beyond their counts.
func TestStuck(t *testing.T) {
	c := chance(153)
	met := 0
	for range 4000 {
		n, reps := c.period(c.sizes())
		p := answer(t, n, reps, c.prefer(n.Nodes))
		if len(p.Stuck) == 0 {
			continue
		}
		met++
		holds(t, n, reps, p.Stuck)
		for _, most := range [][]int{reps, times(reps, 2)} {
			s := start(t, n)
			farther(&c, s, most)
			for _, b := range p.Stuck {
				if s.Fired()[b.Node] != b.Fired {
					t.Fatalf("%v: %v, but %d fired %d times", n, p.Stuck, b.Node, s.Fired()[b.Node])
				}
			}
		}
	}
	if met < 1000 {
		t.Errorf("%d only stood still", met)
	}
}

// reached tells whether some row of firings brings all nodes to their counts: every row is gone along, each moment (how often each has fired) once.
func reached(n api.Net, reps []int) bool {
	seen := map[[3]int]int{}
	var from func(fired []int) bool
	from = func(fired []int) bool {
		var key [3]int
		copy(key[:], fired)
		if seen[key]++; seen[key] > 1 {
			return false
		}
		if slices.Equal(fired, reps) {
			return true
		}
		for _, node := range ready(n, fired, reps) {
			then := slices.Clone(fired)
			then[node]++
			if from(then) {
				return true
			}
		}
		return false
	}
	return from(make([]int, n.Nodes))
}

// TestNoOrder is P15.3: there is a list just if some order of firings brings all nodes to their counts, in all small nets and in many of up to three nodes, every order of which is gone along.
func TestNoOrder(t *testing.T) {
	lists, blocks := 0, 0
	look := func(n api.Net, reps []int) {
		t.Helper()
		p := answer(t, n, reps, nil)
		if is := len(p.List) > 0; is != reached(n, reps) || is == (len(p.Stuck) > 0) {
			t.Fatalf("%v, %v: %v", n, reps, p)
		}
		if len(p.List) > 0 {
			lists++
			goesOn(t, n, reps, p.List)
		} else {
			blocks++
			holds(t, n, reps, p.Stuck)
		}
	}
	for _, n := range smallNets() {
		for _, reps := range [][]int{{1, 1}, {1, 2}, {2, 1}, {3, 3}, {4, 2}} {
			if balanced(n, reps) {
				look(n, reps)
			}
		}
	}
	c := chance(154)
	for range 3000 {
		n, reps := c.period(1+c.below(3), c.below(7))
		if sum(reps) <= 60 {
			look(n, reps)
		}
	}
	if lists < 1000 || blocks < 1000 {
		t.Error("too few of a kind", lists, blocks)
	}
}

// TestMoreTokens is P15.3: where there is a list, there is one with more tokens at the start, too; with fewer, what stood still stands still.
func TestMoreTokens(t *testing.T) {
	c := chance(155)
	met := map[bool]int{}
	for range 2000 {
		n, reps := c.period(c.sizes())
		is := len(answer(t, n, reps, nil).List) > 0
		met[is]++
		for range 5 {
			for i := range n.Arcs {
				switch a := &n.Arcs[i]; {
				case !is:
					a.Start -= c.below(1 + min(a.Start, 3))
				case c.below(3) == 0:
					a.Start += c.below(1 + min(256-a.Start, pick(&c, 1, 20, 256)))
				}
			}
			p := answer(t, n, reps, c.prefer(n.Nodes))
			if (len(p.List) > 0) != is {
				t.Fatalf("%v, %v: %v", n, reps, p)
			}
			if is {
				goesOn(t, n, reps, p.List)
			} else {
				holds(t, n, reps, p.Stuck)
			}
		}
	}
	if met[true] < 500 || met[false] < 500 {
		t.Error("too few of a kind", met)
	}
}

// TestPreferDoesNotCount is P15.4: whatever prefer says, there is a list or not, and the blocks are the same.
func TestPreferDoesNotCount(t *testing.T) {
	c := chance(156)
	lists, blocks, other := 0, 0, 0
	for range 1500 {
		n, reps := c.period(c.sizes())
		first := answer(t, n, reps, nil)
		for range 6 {
			p := answer(t, n, reps, c.prefer(n.Nodes))
			if !slices.Equal(p.Stuck, first.Stuck) || len(p.List) != len(first.List) {
				t.Fatalf("%v, %v: %v and %v", n, reps, first, p)
			}
			if len(p.List) == 0 {
				blocks++
				continue
			}
			lists++
			if !slices.Equal(p.List, first.List) {
				other++
				goesOn(t, n, reps, p.List)
			}
		}
	}
	if lists < 2000 || blocks < 2000 || other < 1000 {
		t.Error("too few of a kind", lists, blocks, other)
	}
}

// everyRow goes through all rows of up to so many of some nodes.
func everyRow(nodes, most int, look func(row []int)) {
	var from func(row []int)
	from = func(row []int) {
		look(row)
		for node := range nodes * min(1, most-len(row)) {
			from(append(slices.Clone(row), node))
		}
	}
	from(nil)
}

// TestEveryPrefer is P15.2 and P15.4: all rows of up to four of three nodes as prefer, against a model and against each other.
func TestEveryPrefer(t *testing.T) {
	c := chance(157)
	lists, blocks := 0, 0
	for range 150 {
		n, reps := c.period(3, 1+c.below(5))
		if sum(reps) > 60 {
			continue
		}
		first := answer(t, n, reps, nil)
		everyRow(3, 4, func(prefer []int) {
			p, _ := agrees(t, n, reps, prefer)
			if !slices.Equal(p.Stuck, first.Stuck) || (len(p.List) > 0) != (len(first.List) > 0) {
				t.Fatalf("%v, %v, %v: %v", n, reps, prefer, p)
			}
		})
		lists += min(1, len(first.List))
		blocks += min(1, len(first.Stuck))
	}
	if lists < 30 || blocks < 30 {
		t.Error("too few of a kind", lists, blocks)
	}
}

// TestSeveralTimes is P15.5: with several times the least counts there is a list just if there is one with the least counts; where no arc joins all nodes, too.
func TestSeveralTimes(t *testing.T) {
	c := chance(158)
	lists, blocks := 0, 0
	for range 2000 {
		n, _ := c.period(c.sizes())
		b, e := balance.Solve(n)
		if e != api.OK || b.Verdict != api.Steady {
			t.Fatalf("%v: %v %v", n, b, e)
		}
		first := answer(t, n, b.Reps, nil)
		for _, factor := range []int{2, 3, 4, 7, 2048 / sum(b.Reps)} {
			reps := times(b.Reps, factor)
			if sum(reps) > 2048 {
				runIs(t, n, reps, nil, api.Period{}, api.ErrTooBig)
				continue
			}
			p := answer(t, n, reps, c.prefer(n.Nodes))
			if (len(p.List) > 0) != (len(first.List) > 0) || (len(p.Stuck) > 0) != (len(first.Stuck) > 0) {
				t.Fatalf("%v: %v with %v, %v with %v", n, first, b.Reps, p, reps)
			}
			if len(p.List) > 0 {
				lists++
				goesOn(t, n, reps, p.List)
			} else {
				blocks++
				holds(t, n, reps, p.Stuck)
			}
		}
	}
	if lists < 1000 || blocks < 1000 {
		t.Error("too few of a kind", lists, blocks)
	}
}
