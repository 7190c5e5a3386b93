package balance_test

import (
	"math/big"
	"slices"
	"testing"

	"pianola/api"
	"pianola/net"
)

// TestHoldsByHand is P13.1: counts that balance, and such that do not, of nets that can be told by looking.
func TestHoldsByHand(t *testing.T) {
	one := netOf(2, arc(0, 1, 2, 3))
	for _, c := range []struct {
		n    api.Net
		reps []int
		want bool
	}{
		{one, []int{3, 2}, true},
		{one, []int{6, 4}, true},
		{one, []int{4095, 2730}, true},
		{one, []int{2, 3}, false},
		{one, []int{3, 3}, false},
		{one, []int{1, 1}, false},
		{one, []int{6, 2}, false},
		{netOf(2, arc(1, 0, 2, 3)), []int{2, 3}, true},
		{netOf(2, arc(1, 0, 2, 3)), []int{3, 2}, false},
		{netOf(2, arc(0, 1, 4, 6)), []int{3, 2}, true},
		{netOf(1, arc(0, 0, 1, 1)), []int{7}, true},
		{netOf(1, arc(0, 0, 64, 64)), []int{4096}, true},
		{netOf(1, arc(0, 0, 64, 63)), []int{1}, false},
		{netOf(2, arc(0, 1, 1, 1), arc(0, 1, 2, 1)), []int{1, 1}, false},
		{netOf(2, arc(0, 1, 1, 1), arc(0, 1, 2, 1)), []int{1, 2}, false},
		{netOf(2, arc(0, 1, 1, 2), arc(1, 0, 2, 1)), []int{2, 1}, true},
		{netOf(3, arc(0, 1, 1, 2), arc(1, 2, 1, 3), arc(2, 0, 6, 1)), []int{6, 3, 1}, true},
		{netOf(3, arc(0, 1, 1, 2), arc(1, 2, 1, 3), arc(2, 0, 6, 1)), []int{1, 3, 6}, false},
		{netOf(4, arc(0, 2, 1, 3), arc(3, 1, 5, 1)), []int{9, 10, 3, 2}, true}, // each component by itself
		{netOf(4, arc(0, 2, 1, 3), arc(3, 1, 5, 1)), []int{9, 10, 3, 3}, false},
	} {
		holdsIs(t, c.n, c.reps, c.want, api.OK)
	}
}

// TestHoldsHowMany is P13.1: ErrArg of too few and of too many counts, also where those that are there would balance.
func TestHoldsHowMany(t *testing.T) {
	for nodes := 1; nodes <= 32; nodes++ {
		for _, n := range []api.Net{netOf(nodes), netOf(nodes, arc(0, nodes-1, 7, 7))} {
			for many := range 70 {
				ones := slices.Repeat([]int{1}, many)
				if many == nodes {
					holdsIs(t, n, ones, true, api.OK)
				} else {
					holdsIs(t, n, ones, false, api.ErrArg)
				}
			}
			holdsIs(t, n, nil, false, api.ErrArg)
			holdsIs(t, n, []int{}, false, api.ErrArg)
			for _, many := range []int{4096, 1 << 16, 1<<16 + nodes, 1 << 20} {
				holdsIs(t, n, slices.Repeat([]int{1}, many), false, api.ErrArg)
			}
		}
	}
}

// TestHoldsFirstError is P13.1: the net's error ahead of ErrArg, and ErrArg ahead of whatever the counts are.
func TestHoldsFirstError(t *testing.T) {
	good, wrongRate, wrongStart := netOf(2, arc(0, 1, 2, 3)), netOf(2, arc(0, 1, 2, 65)), netOf(2, arc(0, 1, 2, 3))
	wrongStart.Arcs[0].Start = 257
	for _, reps := range [][]int{nil, {3}, {0}, {3, 2, 1}, {-1, 0, 4097}, make([]int, 97)} {
		holdsIs(t, good, reps, false, api.ErrArg)
		holdsIs(t, wrongRate, reps, false, api.ErrRate)
		holdsIs(t, wrongStart, reps, false, api.ErrStart)
		holdsIs(t, netOf(2, make([]api.Arc, 97)...), reps, false, api.ErrMany)
		holdsIs(t, netOf(2, arc(0, 2, 1, 1)), reps, false, api.ErrNode)
		holdsIs(t, netOf(len(reps)-100), reps, false, api.ErrNode)
	}
	holdsIs(t, api.Net{}, nil, false, api.ErrNode) // as many counts as nodes, but no net
	holdsIs(t, netOf(33), slices.Repeat([]int{1}, 33), false, api.ErrNode)
	holdsIs(t, wrongRate, []int{3, 3}, false, api.ErrRate)
	holdsIs(t, wrongStart, []int{3, 2}, false, api.ErrStart)
}

// TestHoldsRange is P13.1: each count from 1 to MaxRep, at each place, also of nets without arcs and of counts on which each arc balances.
func TestHoldsRange(t *testing.T) {
	for nodes := 1; nodes <= 32; nodes++ {
		ring := netOf(nodes)
		for node := range nodes {
			ring.Arcs = append(ring.Arcs, arc(node, (node+1)%nodes, 64, 64))
		}
		for _, count := range []int{1, 2, 63, 64, 65, 2048, 4095, 4096} {
			holdsIs(t, ring, slices.Repeat([]int{count}, nodes), true, api.OK)
		}
		for _, count := range []int{least, least + 1, -1 << 32, -4096, -1, 0, 4097, 4098, 8192, 1 << 31, 1 << 32, 1<<32 + 1, 1 << 58, 1 << 62, greatest - 1, greatest} {
			holdsIs(t, ring, slices.Repeat([]int{count}, nodes), false, api.OK)
			for place := range nodes {
				reps := slices.Repeat([]int{1}, nodes)
				holdsIs(t, netOf(nodes), reps, true, api.OK)
				reps[place] = count
				holdsIs(t, netOf(nodes), reps, false, api.OK)
				holdsIs(t, ring, reps, false, api.OK)
			}
		}
		for place := range nodes {
			reps := slices.Repeat([]int{1}, nodes)
			reps[place] = 4096
			holdsIs(t, netOf(nodes), reps, true, api.OK)
			reps = slices.Repeat([]int{4096}, nodes)
			reps[place] = 1
			holdsIs(t, netOf(nodes), reps, true, api.OK)
		}
	}
}

// TestHoldsGreatCounts is P13.1: counts that would balance but for MaxRep, and such that would if products were cut off at 64 bits.
func TestHoldsGreatCounts(t *testing.T) {
	one := netOf(2, arc(0, 1, 2, 3))
	holdsIs(t, one, []int{4095, 2730}, true, api.OK)
	holdsIs(t, one, []int{4098, 2732}, false, api.OK)
	holdsIs(t, one, []int{6144, 4096}, false, api.OK)
	holdsIs(t, one, []int{-3, -2}, false, api.OK)
	holdsIs(t, one, []int{0, 0}, false, api.OK)
	holdsIs(t, one, []int{3 << 60, 2 << 60}, false, api.OK)
	steep := netOf(2, arc(0, 1, 64, 1))
	holdsIs(t, steep, []int{64, 4096}, true, api.OK)
	holdsIs(t, steep, []int{1 << 58, 0}, false, api.OK)
	holdsIs(t, steep, []int{1<<58 + 1, 64}, false, api.OK)
	holdsIs(t, netOf(2, arc(0, 1, 64, 64)), []int{1<<58 + 1, 1}, false, api.OK)
	holdsIs(t, netOf(2, arc(0, 1, 64, 64)), []int{1, 1<<58 + 1}, false, api.OK)
}

// TestHoldsMissesOne is P13.1: of a net at the limits that balances, one arc alone does not, at each place, by a rate or by a way; and counts of which one is a little off.
func TestHoldsMissesOne(t *testing.T) {
	n, reps := netOf(32), make([]int, 32)
	for node := range reps {
		reps[node] = []int{4096, 64, 128, 2048}[node%4]
	}
	for i := range 96 {
		from, to := i%32, (i*5+3)%32
		common := gcd(reps[from], reps[to])
		n.Arcs = append(n.Arcs, arc(from, to, reps[to]/common, reps[from]/common))
	}
	holdsIs(t, n, reps, true, api.OK)
	for i := range n.Arcs {
		kept := n.Arcs[i]
		for _, other := range []api.Arc{
			arc(kept.From, kept.To, kept.Give%64+1, kept.Take),
			arc(kept.From, kept.To, kept.Give, kept.Take%64+1),
			arc(kept.From, kept.From, 64, 63),
		} {
			n.Arcs[i] = other
			holdsIs(t, n, reps, false, api.OK)
		}
		n.Arcs[i] = kept
	}
	for node := range reps {
		for _, off := range []int{-1, 1} {
			reps[node] += off
			holdsIs(t, n, reps, false, api.OK)
			reps[node] -= off
		}
	}
	holdsIs(t, n, reps, true, api.OK)
}

// TestHoldsAll is P13.1: all counts up to some ones of small nets, beside them such that may not be, against a model.
func TestHoldsAll(t *testing.T) {
	c := chance(131)
	counts := []int{-1, 0, 1, 2, 3, 4, 5, 6, 8, 9, 12, 4095, 4096, 4097}
	yes := 0
	for range 400 {
		n := c.net()
		n.Nodes = 1 + c.below(3)
		n.Arcs = slices.DeleteFunc(n.Arcs[:min(3, len(n.Arcs))], func(a api.Arc) bool { return max(a.From, a.To) >= n.Nodes })
		reps := make([]int, n.Nodes)
		var every func(node int)
		every = func(node int) {
			if node == n.Nodes {
				want := holding(n, reps)
				holdsIs(t, n, reps, want, api.OK)
				if want && len(n.Arcs) > 0 {
					yes++
				}
				return
			}
			for _, reps[node] = range counts {
				every(node + 1)
			}
		}
		every(0)
	}
	if yes < 1000 {
		t.Errorf("%d rows of counts only balance", yes)
	}
}

// TestHoldsMany is P13.1: the least counts of many nets, once and several times, and a little off, against a model.
func TestHoldsMany(t *testing.T) {
	c := chance(132)
	met := map[bool]int{}
	for _, n := range manyNets(&c, 800) {
		var reps []int
		for _, count := range forestCounts(n) {
			reps = append(reps, int(new(big.Int).Rem(count, big.NewInt(1<<62)).Int64()))
		}
		times := 1 + c.below(4)
		for node := range reps {
			reps[node] *= times
		}
		want := holding(n, reps)
		met[want]++
		holdsIs(t, n, reps, want, api.OK)
		reps[c.below(n.Nodes)] += pick(&c, -1, 1)
		holdsIs(t, n, reps, holding(n, reps), api.OK)
		holdsIs(t, n, reps[1:], false, api.ErrArg)
		holdsIs(t, n, append(reps, 1), false, api.ErrArg)
	}
	if met[true] < 300 || met[false] < 300 {
		t.Error("too few of a kind", met)
	}
}

// TestRefused is P13.1 and P13.2: each thing for which net.Check refuses a net, whatever the counts, and nothing beside the error.
func TestRefused(t *testing.T) {
	for code, nets := range wrong() {
		for _, n := range nets {
			if e := net.Check(n); e != code {
				t.Fatalf("%v: %v", n, e)
			}
			for _, reps := range [][]int{nil, {1}, {3, 2, 1}, {0, 0, 0}, {1, 1, 1, 1}, make([]int, 33)} {
				refused(t, n, reps, code)
			}
		}
	}
}

// wrong are nets of each kind that net.Check refuses.
func wrong() map[api.Errno][]api.Net {
	arcs := func() []api.Arc { return []api.Arc{arc(0, 1, 2, 3), arc(1, 2, 2, 1), arc(0, 2, 4, 3)} }
	with := func(set func(a *api.Arc)) api.Net {
		n := netOf(3, arcs()...)
		set(&n.Arcs[2])
		return n
	}
	return map[api.Errno][]api.Net{
		api.ErrNode: {
			{}, {Nodes: -1}, {Nodes: least}, {Nodes: 33}, {Nodes: greatest, Arcs: arcs()}, {Arcs: arcs()}, {Nodes: 2, Arcs: arcs()},
			with(func(a *api.Arc) { a.From = -1 }), with(func(a *api.Arc) { a.From = 3 }), with(func(a *api.Arc) { a.From = greatest }),
			with(func(a *api.Arc) { a.To = -1 }), with(func(a *api.Arc) { a.To = 3 }), with(func(a *api.Arc) { a.To = least }),
		},
		api.ErrMany: {
			{Nodes: 3, Arcs: slices.Repeat([]api.Arc{arc(0, 1, 1, 1)}, 97)}, {Nodes: 3, Arcs: make([]api.Arc, 97)},
		},
		api.ErrRate: {
			with(func(a *api.Arc) { a.Give = 0 }), with(func(a *api.Arc) { a.Give = 65 }), with(func(a *api.Arc) { a.Give = least }),
			with(func(a *api.Arc) { a.Take = 0 }), with(func(a *api.Arc) { a.Take = 65 }), with(func(a *api.Arc) { a.Take = greatest }),
		},
		api.ErrStart: {
			with(func(a *api.Arc) { a.Start = -1 }), with(func(a *api.Arc) { a.Start = 257 }),
		},
	}
}

// TestMixedRefused is P13.1 and P13.2: nets of which some numbers are changed have net.Check's error, or the model's answers.
func TestMixedRefused(t *testing.T) {
	c := chance(133)
	met := map[api.Errno]int{}
	for range 6000 {
		n := c.net()
		c.spoil(&n)
		reps := slices.Repeat([]int{1}, min(40, max(0, n.Nodes)))
		e := net.Check(n)
		met[e]++
		if e != api.OK {
			refused(t, n, reps, e)
			continue
		}
		solveIs(t, n, solved(n), api.OK)
		holdsIs(t, n, reps, holding(n, reps), api.OK)
	}
	for _, e := range []api.Errno{api.OK, api.ErrNode, api.ErrMany, api.ErrRate, api.ErrStart} {
		if met[e] < 100 {
			t.Errorf("%v: %d nets only", e, met[e])
		}
	}
}
