package balance_test

import (
	"slices"
	"testing"

	"pianola/api"
)

// TestExamples is P13.2: the chapter's examples.
func TestExamples(t *testing.T) {
	solveIs(t, netOf(2), steady(1, 1), api.OK)
	solveIs(t, netOf(2, arc(0, 1, 2, 3)), steady(3, 2), api.OK)
	solveIs(t, netOf(2, arc(0, 1, 4, 6)), steady(3, 2), api.OK)
	solveIs(t, netOf(3, arc(0, 1, 1, 2), arc(1, 2, 1, 3), arc(2, 0, 6, 1)), steady(6, 3, 1), api.OK)
	solveIs(t, netOf(3, arc(0, 1, 1, 2), arc(1, 2, 1, 3), arc(2, 0, 5, 1)), unlike(along(2), along(0), along(1)), api.OK)
	solveIs(t, netOf(1, arc(0, 0, 2, 1)), unlike(along(0)), api.OK)
	solveIs(t, netOf(2, arc(0, 1, 1, 1), arc(0, 1, 2, 1)), unlike(along(1), back(0)), api.OK)
	solveIs(t, netOf(3, arc(0, 1, 64, 1), arc(1, 2, 64, 1)), steady(1, 64, 4096), api.OK)
	steep := []api.Arc{arc(0, 1, 64, 1), arc(1, 2, 64, 1), arc(2, 3, 2, 1)}
	solveIs(t, netOf(4, steep...), tooBig(), api.OK)
	solveIs(t, netOf(4, append(steep, arc(0, 0, 2, 1))...), tooBig(), api.OK)
}

// TestNoArc is P13.2: each node has a count of 1.
func TestNoArc(t *testing.T) {
	for nodes := 1; nodes <= 32; nodes++ {
		solveIs(t, netOf(nodes), steady(slices.Repeat([]int{1}, nodes)...), api.OK)
	}
}

// TestOneArc is P13.2: of all rates, whichever way it leads, the least counts.
func TestOneArc(t *testing.T) {
	for give := 1; give <= 64; give++ {
		for take := 1; take <= 64; take++ {
			common := gcd(give, take)
			solveIs(t, netOf(2, arc(0, 1, give, take)), steady(take/common, give/common), api.OK)
			solveIs(t, netOf(2, arc(1, 0, give, take)), steady(give/common, take/common), api.OK)
			solveIs(t, netOf(4, arc(3, 1, give, take)), steady(1, give/common, 1, take/common), api.OK)
		}
	}
}

// TestToItself is P13.2: an arc from a node to itself balances just if its rates are the same; the cycle is that arc alone, wherever the node is.
func TestToItself(t *testing.T) {
	for give := 1; give <= 64; give++ {
		for take := 1; take <= 64; take++ {
			want, joinedWant := unlike(along(0)), unlike(along(1))
			if give == take {
				want, joinedWant = steady(1), steady(3, 2, 1)
			}
			solveIs(t, netOf(1, arc(0, 0, give, take)), want, api.OK)
			solveIs(t, netOf(3, arc(0, 1, 2, 3), arc(1, 1, give, take)), joinedWant, api.OK)
		}
	}
	solveIs(t, netOf(2, arc(1, 1, 5, 5), arc(0, 0, 3, 3), arc(0, 1, 2, 3), arc(0, 0, 1, 1)), steady(3, 2), api.OK)
	solveIs(t, netOf(2, arc(1, 1, 5, 5), arc(0, 0, 3, 3), arc(0, 1, 2, 3), arc(0, 0, 3, 2)), unlike(along(3)), api.OK)
}

// TestSeveralBetweenTwo is P13.2: arcs that lead the same way and the other way, the first one in the forest.
func TestSeveralBetweenTwo(t *testing.T) {
	solveIs(t, netOf(2, arc(0, 1, 2, 3), arc(0, 1, 4, 6), arc(1, 0, 3, 2), arc(1, 0, 63, 42)), steady(3, 2), api.OK)
	solveIs(t, netOf(2, arc(0, 1, 2, 3), arc(0, 1, 4, 6), arc(1, 0, 2, 3), arc(0, 1, 1, 1)), unlike(along(2), along(0)), api.OK)
	solveIs(t, netOf(2, arc(1, 0, 2, 3), arc(0, 1, 2, 3)), unlike(along(1), along(0)), api.OK)
	solveIs(t, netOf(2, arc(1, 0, 2, 3), arc(0, 1, 3, 2), arc(1, 0, 4, 5)), unlike(along(2), back(0)), api.OK)
	solveIs(t, netOf(2, arc(0, 1, 1, 1), arc(1, 0, 1, 2)), unlike(along(1), along(0)), api.OK)
	solveIs(t, netOf(2, slices.Repeat([]api.Arc{arc(1, 0, 64, 63)}, 96)...), steady(64, 63), api.OK)
	full := slices.Repeat([]api.Arc{arc(1, 0, 64, 63)}, 96)
	full[95] = arc(0, 1, 64, 63)
	solveIs(t, netOf(2, full...), unlike(along(95), along(0)), api.OK)
}

// TestSeveralComponents is P13.2: each by itself, its nodes among those of the others, least each.
func TestSeveralComponents(t *testing.T) {
	solveIs(t, netOf(4, arc(0, 1, 3, 2), arc(2, 3, 1, 5)), steady(2, 3, 5, 1), api.OK)
	solveIs(t, netOf(6, arc(0, 5, 7, 1), arc(4, 1, 1, 9), arc(5, 2, 1, 14)), steady(2, 1, 1, 1, 9, 14), api.OK)
	solveIs(t, netOf(5, arc(4, 2, 6, 4), arc(3, 1, 10, 4), arc(2, 0, 3, 3)), steady(3, 5, 3, 2, 2), api.OK)
	solveIs(t, netOf(5, arc(4, 2, 6, 4), arc(3, 1, 10, 4), arc(2, 0, 3, 3), arc(1, 3, 4, 11)), unlike(along(3), along(1)), api.OK)
	solveIs(t, netOf(3, arc(2, 2, 1, 2)), unlike(along(0)), api.OK)
	twos := netOf(32)
	for node := range 16 {
		twos.Arcs = append(twos.Arcs, arc(node, 31-node, 64, 63))
	}
	solveIs(t, twos, steady(append(slices.Repeat([]int{63}, 16), slices.Repeat([]int{64}, 16)...)...), api.OK) // the rates of all together would be far too great
	apart := netOf(4, arc(0, 1, 64, 1), arc(2, 3, 64, 1))
	solveIs(t, apart, steady(1, 64, 1, 64), api.OK)
}

// TestMaxRep is P13.2: counts that are just MaxRep, and such of which one passes it, at the first, the last and the middle node.
func TestMaxRep(t *testing.T) {
	for _, c := range []struct {
		what string
		n    api.Net
		want api.Balance
	}{
		{"up", netOf(3, arc(0, 1, 64, 1), arc(1, 2, 64, 1)), steady(1, 64, 4096)},
		{"down", netOf(3, arc(0, 1, 1, 64), arc(1, 2, 1, 64)), steady(4096, 64, 1)},
		{"up by an arc the other way", netOf(3, arc(1, 0, 1, 64), arc(2, 1, 1, 64)), steady(1, 64, 4096)},
		{"down by an arc the other way", netOf(3, arc(1, 0, 64, 1), arc(2, 1, 64, 1)), steady(4096, 64, 1)},
		{"the last but one", netOf(4, arc(0, 2, 1, 63), arc(0, 1, 1, 5), arc(0, 3, 1, 13)), steady(4095, 819, 65, 315)},
		{"by what all of them divide", netOf(4, arc(1, 0, 64, 1), arc(1, 2, 64, 1), arc(3, 2, 1, 64)), steady(64, 1, 64, 4096)},
		{"all of them great, the last one most", netOf(3, arc(0, 1, 64, 63), arc(1, 2, 64, 63)), steady(3969, 4032, 4096)},
		{"all of them great, the first one most", netOf(3, arc(0, 1, 63, 64), arc(1, 2, 63, 64)), steady(4096, 4032, 3969)},
		{"a node between", netOf(5, arc(0, 1, 64, 1), arc(1, 2, 64, 1), arc(2, 3, 1, 64), arc(3, 4, 1, 64)), steady(1, 64, 4096, 64, 1)},
		{"two at MaxRep", netOf(4, arc(0, 1, 64, 1), arc(1, 2, 64, 1), arc(2, 3, 7, 7)), steady(1, 64, 4096, 4096)},

		{"past it, up", netOf(4, arc(0, 1, 64, 1), arc(1, 2, 64, 1), arc(2, 3, 2, 1)), tooBig()},
		{"past it, down", netOf(4, arc(0, 1, 1, 64), arc(1, 2, 1, 64), arc(2, 3, 1, 2)), tooBig()},
		{"4100, the first node", netOf(4, arc(0, 1, 1, 41), arc(0, 2, 1, 50), arc(0, 3, 1, 4)), tooBig()},
		{"4100, the last node", netOf(4, arc(3, 0, 1, 41), arc(3, 1, 1, 50), arc(3, 2, 1, 4)), tooBig()},
		{"4100, a node between", netOf(4, arc(2, 0, 1, 41), arc(2, 1, 1, 50), arc(2, 3, 1, 4)), tooBig()},
		{"one past and then down again", netOf(5, arc(0, 1, 64, 1), arc(1, 2, 64, 1), arc(2, 3, 2, 1), arc(3, 4, 1, 64)), tooBig()},
		{"in the second component", netOf(6, arc(1, 0, 2, 3), arc(2, 3, 64, 1), arc(3, 4, 64, 1), arc(4, 5, 3, 2)), tooBig()},
		{"in the first component", netOf(6, arc(4, 5, 2, 3), arc(0, 1, 64, 1), arc(1, 2, 64, 1), arc(2, 3, 2, 1)), tooBig()},
	} {
		t.Log(c.what)
		solveIs(t, c.n, c.want, api.OK)
		solveIs(t, c.n, solved(c.n), api.OK)
	}
}

// steep is a component of four nodes, from one on, of which one passes MaxRep.
func steep(from int) []api.Arc {
	return []api.Arc{arc(from, from+1, 64, 1), arc(from+1, from+2, 64, 1), arc(from+2, from+3, 2, 1)}
}

// TestTooBigFirst is P13.2: where a count passes MaxRep and an arc does not balance, wherever that arc stands, in the same component or in another one.
func TestTooBigFirst(t *testing.T) {
	for _, bad := range []api.Arc{arc(0, 0, 2, 1), arc(3, 3, 1, 2), arc(0, 3, 1, 1), arc(3, 0, 1, 1), arc(2, 1, 64, 64), arc(4, 4, 2, 1), arc(5, 5, 64, 63), arc(4, 5, 5, 7)} {
		for at := range 5 {
			arcs := slices.Insert(append(steep(0), arc(4, 5, 1, 1)), at, bad)
			n := netOf(6, arcs...)
			solveIs(t, n, solved(n), api.OK)
			if bad.From == bad.To {
				solveIs(t, n, tooBig(), api.OK)
			}
		}
		solveIs(t, netOf(6, append(append(steep(0), arc(4, 5, 1, 1)), bad)...), tooBig(), api.OK)
	}
	solveIs(t, netOf(8, slices.Concat([]api.Arc{arc(0, 1, 1, 1), arc(0, 1, 2, 1)}, steep(4))...), tooBig(), api.OK)
	solveIs(t, netOf(8, slices.Concat([]api.Arc{arc(6, 7, 1, 1), arc(7, 6, 2, 1)}, steep(0))...), tooBig(), api.OK)
}

// TestForestCounts is P13.2: only the forest's arcs tell what is too big; whether they do hangs on the order of the arcs.
func TestForestCounts(t *testing.T) {
	around := append(steep(0), arc(0, 3, 1, 1))
	solveIs(t, netOf(4, around...), tooBig(), api.OK)
	solveIs(t, netOf(4, around[3], around[0], around[1], around[2]), unlike(along(3), back(0), along(1), along(2)), api.OK)
	solveIs(t, netOf(4, around[0], around[3], around[2], around[1]), unlike(along(3), along(2), back(1), along(0)), api.OK)
}

// TestFirstUnlike is P13.2: of several arcs that do not balance the first one, and only of those behind the forest's.
func TestFirstUnlike(t *testing.T) {
	square := []api.Arc{arc(0, 1, 2, 1), arc(2, 1, 1, 1), arc(2, 3, 1, 2)}
	for _, c := range []struct {
		more []api.Arc
		want api.Balance
	}{
		{[]api.Arc{arc(3, 0, 1, 1), arc(0, 3, 2, 2)}, steady(1, 2, 2, 1)},
		{[]api.Arc{arc(3, 0, 1, 2), arc(0, 3, 1, 2)}, unlike(along(3), along(0), back(1), along(2))},
		{[]api.Arc{arc(3, 0, 1, 1), arc(0, 3, 1, 2)}, unlike(along(4), back(2), along(1), back(0))},
		{[]api.Arc{arc(1, 2, 1, 1), arc(2, 2, 1, 2), arc(0, 3, 1, 2)}, unlike(along(4))},
		{[]api.Arc{arc(1, 2, 1, 1), arc(0, 3, 1, 2), arc(2, 2, 1, 2)}, unlike(along(4), back(2), along(1), back(0))},
		{[]api.Arc{arc(3, 1, 1, 2), arc(1, 3, 1, 2)}, unlike(along(3), back(1), along(2))},
		{[]api.Arc{arc(3, 1, 2, 1), arc(3, 1, 1, 2), arc(3, 0, 2, 1)}, unlike(along(4), back(1), along(2))},
	} {
		n := netOf(4, append(slices.Clone(square), c.more...)...)
		solveIs(t, n, c.want, api.OK)
		solveIs(t, n, solved(n), api.OK)
	}

	mixed := netOf(4, arc(2, 2, 3, 3), arc(0, 1, 2, 1), arc(1, 0, 1, 1), arc(2, 1, 1, 1), arc(2, 2, 2, 3), arc(2, 3, 1, 2))
	solveIs(t, mixed, unlike(along(2), along(1)), api.OK) // the forest goes on behind it
}

// TestUnlikeAtEachPlace is P13.2: a net at the limits that balances, of which the arcs from some place on do not.
func TestUnlikeAtEachPlace(t *testing.T) {
	n := netOf(32)
	for i := range 96 {
		n.Arcs = append(n.Arcs, arc(i%32, (i*5+3+i/32)%32, 17, 17))
	}
	solveIs(t, n, steady(slices.Repeat([]int{1}, 32)...), api.OK)
	tree := treeOf(n)
	for i := len(n.Arcs) - 1; i >= 0; i-- {
		if slices.Contains(tree, i) {
			continue
		}
		n.Arcs[i].Take = 16
		want := unlike(append([]api.Step{along(i)}, pathOf(n, tree, n.Arcs[i].To, n.Arcs[i].From)...)...)
		solveIs(t, n, want, api.OK)
	}
}

// ring is a net of so many nodes, all around.
func ring(nodes, give, take int) api.Net {
	n := netOf(nodes)
	for node := range nodes {
		n.Arcs = append(n.Arcs, arc(node, (node+1)%nodes, give, take))
	}
	return n
}

// TestLongestCycle is P13.2: all around the longest ring, of which the last arc does not balance.
func TestLongestCycle(t *testing.T) {
	for nodes := 1; nodes <= 32; nodes++ {
		n := ring(nodes, 64, 64)
		solveIs(t, n, steady(slices.Repeat([]int{1}, nodes)...), api.OK)
		n.Arcs[nodes-1].Take = 63
		var cycle []api.Step
		for i := range nodes {
			cycle = append(cycle, along((nodes-1+i)%nodes))
		}
		solveIs(t, n, unlike(cycle...), api.OK)
	}
	turns := netOf(32) // some of the way along and some back
	want := []api.Step{along(31)}
	for node := range 31 {
		if node%3 == 0 {
			turns.Arcs = append(turns.Arcs, arc(node+1, node, 3, 3))
			want = append(want, back(node))
		} else {
			turns.Arcs = append(turns.Arcs, arc(node, node+1, 2, 2))
			want = append(want, along(node))
		}
	}
	turns.Arcs = append(turns.Arcs, arc(31, 0, 1, 2))
	solveIs(t, turns, unlike(want...), api.OK)
}

// TestGreatNumbers is P13.2: rows and stars the fractions or multiples of which do not fit, or would come out small if they were cut off, are too big; so are such that come down again.
func TestGreatNumbers(t *testing.T) {
	for _, rates := range [][2]int{{64, 1}, {1, 64}, {64, 63}, {63, 64}, {2, 1}, {1, 2}, {61, 59}, {64, 33}} {
		for nodes := 1; nodes <= 32; nodes++ {
			n := ring(nodes, rates[0], rates[1])
			n.Arcs = n.Arcs[:nodes-1]
			solveIs(t, n, solved(n), api.OK)
			if nodes > 13 {
				solveIs(t, n, tooBig(), api.OK)
			}
		}
	}
	for top := 1; top <= 31; top++ { // up and down again: home and the last node have a count of 1
		hill, dale := netOf(32), netOf(32)
		for node := range 31 {
			up, down := arc(node, node+1, 64, 1), arc(node, node+1, 1, 64)
			if node >= top {
				up, down = down, up
			}
			hill.Arcs, dale.Arcs = append(hill.Arcs, up), append(dale.Arcs, down)
		}
		solveIs(t, hill, tooBig(), api.OK)
		solveIs(t, dale, tooBig(), api.OK)
	}
	primes := []int{2, 3, 5, 7, 11, 13, 17, 19, 23, 29, 31, 37, 41, 43, 47, 53, 59, 61}
	for many := range len(primes) + 1 {
		for _, first := range []int{0, len(primes) - many} {
			star, other := netOf(many+1), netOf(many+1)
			for i, prime := range primes[first : first+many] {
				star.Arcs = append(star.Arcs, arc(0, i+1, 1, prime))
				other.Arcs = append(other.Arcs, arc(i, many, prime, 1))
			}
			solveIs(t, star, solved(star), api.OK)
			solveIs(t, other, solved(other), api.OK)
		}
	}
	six := netOf(6, arc(0, 1, 1, 2), arc(0, 2, 1, 3), arc(0, 3, 1, 5), arc(0, 4, 1, 7), arc(0, 5, 1, 11))
	solveIs(t, six, steady(2310, 1155, 770, 462, 330, 210), api.OK)
}

// TestLevelRows is P13.2: rows of all nodes, up and down by turns, that balance.
func TestLevelRows(t *testing.T) {
	n, reps := netOf(32), []int{1}
	for node := range 31 {
		up := []int{64, 64, 1, 1}[node%4]
		down := []int{1, 1, 64, 64}[node%4]
		n.Arcs = append(n.Arcs, arc(node, node+1, up, down))
		reps = append(reps, reps[node]*up/down)
	}
	solveIs(t, n, steady(reps...), api.OK)
	for i := range 65 {
		from, to := i%32, (i+4)%32 // the same count
		n.Arcs = append(n.Arcs, arc(from, to, 1+i%64, 1+i%64))
	}
	solveIs(t, n, steady(reps...), api.OK)
}

// TestSmallNets is P13.2: all nets of two nodes and of three, of some arcs and rates, against a model.
func TestSmallNets(t *testing.T) {
	met := map[api.Verdict]int{}
	for nodes := 1; nodes <= 3; nodes++ {
		var kinds []api.Arc
		for from := range nodes {
			for to := range nodes {
				for _, rates := range [][2]int{{1, 1}, {1, 2}, {2, 1}, {64, 1}} {
					kinds = append(kinds, arc(from, to, rates[0], rates[1]))
				}
			}
		}
		n := netOf(nodes)
		var every func(more int)
		every = func(more int) {
			want := solved(n)
			met[want.Verdict]++
			solveIs(t, n, want, api.OK)
			for _, kind := range kinds[:len(kinds)*min(1, more)] {
				n.Arcs = append(n.Arcs, kind)
				every(more - 1)
				n.Arcs = n.Arcs[:len(n.Arcs)-1]
			}
		}
		every(3)
	}
	if met[api.Steady] < 1000 || met[api.Unlike] < 1000 {
		t.Error("too few of a kind", met)
	}
}

// TestManyNets is P13.2: nets of every kind, against a model.
func TestManyNets(t *testing.T) {
	c := chance(134)
	met, longest := map[api.Verdict]int{}, 0
	for _, n := range manyNets(&c, 1000) {
		want := solved(n)
		met[want.Verdict]++
		longest = max(longest, len(want.Cycle))
		solveIs(t, n, want, api.OK)
	}
	if met[api.Steady] < 500 || met[api.Unlike] < 500 || met[api.TooBig] < 300 || longest < 10 {
		t.Error("too few of a kind", met, longest)
	}
}
