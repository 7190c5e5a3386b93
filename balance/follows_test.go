package balance_test

import (
	"math/big"
	"slices"
	"testing"

	"pianola/api"
	"pianola/balance"
	"pianola/witness"
)

// everyCounts goes through all counts up to some one, for each node.
func everyCounts(nodes, most int, look func(reps []int)) {
	reps := slices.Repeat([]int{1}, nodes)
	for {
		look(reps)
		node := 0
		for node < nodes && reps[node] == most {
			reps[node] = 1
			node++
		}
		if node == nodes {
			return
		}
		reps[node]++
	}
}

// multiples tells whether counts are in each component a whole multiple of others.
func multiples(n api.Net, reps, of []int) bool {
	for _, members := range components(n) {
		times := reps[members[0]] / of[members[0]]
		if slices.ContainsFunc(members, func(node int) bool { return reps[node] != times*of[node] }) {
			return false
		}
	}
	return true
}

// TestLeast is P13.3: of all counts up to some one, those that hold are just the whole multiples of Reps in each component, if Steady, and there are none, if not.
func TestLeast(t *testing.T) {
	c := chance(135)
	met := map[api.Verdict]int{}
	for range 600 {
		nodes := 1 + c.below(4)
		n := netOf(nodes)
		for range c.below(6) {
			n.Arcs = append(n.Arcs, c.arc(c.below(nodes), c.below(nodes), pick(&c, 2, 4, 64)))
		}
		if nodes == 4 && c.below(3) == 0 {
			n = c.row(nodes, 64, c.below(2))
		}
		b := answer(t, n)
		met[b.Verdict]++
		everyCounts(nodes, 8, func(reps []int) {
			is, e := balance.Holds(n, reps...)
			want := b.Verdict == api.Steady && multiples(n, reps, b.Reps)
			if e != api.OK || is != want {
				t.Fatalf("%v: %v, and Holds of %v: %v %v", n, b, reps, is, e)
			}
		})
	}
	if met[api.Steady] < 100 || met[api.Unlike] < 100 || met[api.TooBig] < 10 {
		t.Error("too few of a kind", met)
	}
}

// TestReps is P13.3: if Steady, Holds of Reps is yes, in each component nothing but 1 divides all Reps, and so often as they are within MaxRep they hold when one component, or each, is taken several times.
func TestReps(t *testing.T) {
	c := chance(136)
	met := 0
	for _, n := range manyNets(&c, 500) {
		b := answer(t, n)
		if b.Verdict != api.Steady {
			continue
		}
		met++
		holdsIs(t, n, b.Reps, true, api.OK)
		for _, members := range components(n) {
			common, most := 0, 0
			for _, node := range members {
				common, most = gcd(common, b.Reps[node]), max(most, b.Reps[node])
			}
			if common != 1 {
				t.Fatalf("%v: %d divides all of %v in %v", n, common, b.Reps, members)
			}
			for _, times := range []int{2, 3, 4096 / most, 4096/most + 1} {
				reps := slices.Clone(b.Reps)
				for _, node := range members {
					reps[node] *= times
				}
				holdsIs(t, n, reps, times*most <= 4096, api.OK)
			}
		}
	}
	if met < 400 {
		t.Errorf("%d nets only", met)
	}
}

// TestCycles is P13.3 and T2: if Unlike, witness.Confirm of Cycle is OK; the cycle begins along the arc.
func TestCycles(t *testing.T) {
	c := chance(137)
	met, longest := 0, 0
	for _, n := range manyNets(&c, 800) {
		b := answer(t, n)
		if b.Verdict != api.Unlike {
			continue
		}
		met++
		longest = max(longest, len(b.Cycle))
		if e := witness.Confirm(n, b.Cycle...); e != api.OK || b.Cycle[0].Back {
			t.Fatalf("%v: %v: %v", n, b.Cycle, e)
		}
	}
	if met < 500 || longest < 10 {
		t.Errorf("%d nets only, no cycle longer than %d", met, longest)
	}
}

// TestHoldsNever is P13.3: if Unlike or TooBig, Holds is no, whatever the counts: among them the forest's, cut off or brought down to MaxRep, and those that are told by any count of one node.
func TestHoldsNever(t *testing.T) {
	c := chance(138)
	met := map[api.Verdict]int{}
	for _, n := range manyNets(&c, 300) {
		b := answer(t, n)
		met[b.Verdict]++
		if b.Verdict == api.Steady {
			continue
		}
		counts := forestCounts(n)
		for _, first := range []int64{1, 2, 3, 12, 60, 64, 720, 2520, 4095, 4096} {
			var told, cut, mixed []int
			for _, count := range counts {
				part := new(big.Int).Mul(count, big.NewInt(first))
				part.Div(part, counts[0])
				if part.Cmp(big.NewInt(4096)) > 0 {
					part.SetInt64(4096)
				}
				told = append(told, max(1, int(part.Int64())))
				cut = append(cut, int(new(big.Int).And(count, big.NewInt(4095)).Int64()))
				mixed = append(mixed, 1+c.below(pick(&c, 1, 2, 4096)))
			}
			for _, reps := range [][]int{told, cut, mixed} {
				holdsIs(t, n, reps, false, api.OK)
			}
		}
	}
	if met[api.Unlike] < 200 || met[api.TooBig] < 100 {
		t.Error("too few of a kind", met)
	}
}

// TestTooBigOnly is T2: TooBig just if one of the forest's counts passes MaxRep, and then nothing stands beside it; of the other two, each has its list alone.
func TestTooBigOnly(t *testing.T) {
	c := chance(139)
	for _, n := range manyNets(&c, 500) {
		b := answer(t, n)
		passes := slices.ContainsFunc(forestCounts(n), func(count *big.Int) bool { return count.Cmp(big.NewInt(4096)) > 0 })
		if (b.Verdict == api.TooBig) != passes {
			t.Fatalf("%v: %v", n, b)
		}
		reps, cycle := len(b.Reps) > 0, len(b.Cycle) > 0
		if reps != (b.Verdict == api.Steady) || cycle != (b.Verdict == api.Unlike) {
			t.Fatalf("%v: %v", n, b)
		}
	}
}

// TestStartsDoNotCount is P13.3: whatever tokens there are at the start, the answers are the same.
func TestStartsDoNotCount(t *testing.T) {
	c := chance(140)
	for _, n := range manyNets(&c, 100) {
		want := solved(n)
		for _, start := range []int{0, 1, 256} {
			for i := range n.Arcs {
				n.Arcs[i].Start = start
			}
			solveIs(t, n, want, api.OK)
			if want.Verdict == api.Steady {
				holdsIs(t, n, want.Reps, true, api.OK)
			}
		}
		for i := range n.Arcs {
			n.Arcs[i].Start = c.below(257)
		}
		solveIs(t, n, want, api.OK)
	}
}

// TestOrder is P13.3: if Steady, in whichever order the arcs stand, the answer is the same; Holds never hangs on it.
func TestOrder(t *testing.T) {
	c := chance(141)
	met := 0
	for _, n := range manyNets(&c, 200) {
		b := answer(t, n)
		ones := slices.Repeat([]int{1}, n.Nodes)
		held := holding(n, ones)
		for range 6 {
			mix(&c, n.Arcs)
			holdsIs(t, n, ones, held, api.OK)
			if b.Verdict == api.Steady {
				met++
				solveIs(t, n, b, api.OK)
				holdsIs(t, n, b.Reps, true, api.OK)
			} else if other := answer(t, n); other.Verdict == api.Steady {
				t.Fatalf("%v: %v in another order, %v", n, other, b)
			}
		}
		slices.Reverse(n.Arcs)
		solveIs(t, n, solved(n), api.OK)
	}
	if met < 1000 {
		t.Errorf("%d orders only", met)
	}
}
