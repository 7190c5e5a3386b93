package witness_test

import (
	"math/big"
	"slices"
	"testing"

	"pianola/api"
)

// turned is a row of steps the other way round, each step turned about.
func turned(steps []api.Step) []api.Step {
	var other []api.Step
	for _, step := range slices.Backward(steps) {
		other = append(other, api.Step{Arc: step.Arc, Back: !step.Back})
	}
	return other
}

// level tells whether these counts are the same to both ends of an arc.
func level(a api.Arc, counts []*big.Int) bool {
	given := new(big.Int).Mul(big.NewInt(int64(a.Give)), counts[a.From])
	taken := new(big.Int).Mul(big.NewInt(int64(a.Take)), counts[a.To])
	return given.Cmp(taken) == 0
}

// carried are counts that balance on each arc of a cycle but the last step's: each node's count is told by the one ahead of it.
func carried(n api.Net, cycle []api.Step) []*big.Int {
	_, against := productsOf(n, cycle)
	counts := make([]*big.Int, n.Nodes)
	for i := range counts {
		counts[i] = big.NewInt(1)
	}
	at := product(against) // a multiple of whatever it is divided by on the way
	for i, step := range cycle {
		a := n.Arcs[step.Arc]
		if step.Back {
			a.From, a.Give, a.Take = a.To, a.Take, a.Give
		}
		counts[a.From] = new(big.Int).Set(at)
		if i < len(cycle)-1 {
			at.Mul(at, big.NewInt(int64(a.Give))).Div(at, big.NewInt(int64(a.Take)))
		}
	}
	return counts
}

// TestNoCountsBalance is P12.3: around a confirmed cycle counts that balance on all its arcs but one do not on that one; around one that is alike they do.
func TestNoCountsBalance(t *testing.T) {
	c := chance(124)
	for round := range 3200 {
		n, steps := c.cycle(1+round%32, c.below(2) == 0)
		counts := carried(n, steps)
		for _, step := range steps[:len(steps)-1] {
			if !level(n.Arcs[step.Arc], counts) {
				t.Fatal("the counts were not carried", n, steps, counts)
			}
		}
		code := api.OK
		if level(n.Arcs[steps[len(steps)-1].Arc], counts) {
			code = api.ErrAlike
		}
		confirmIs(t, n, steps, code)
	}
}

// TestNoCountsAtAll is P12.3: of any counts, small ones and great ones, none balance on each arc of a confirmed cycle.
func TestNoCountsAtAll(t *testing.T) {
	c := chance(125)
	confirmed := 0
	for range 2000 {
		n, steps := c.cycle(1+c.below(4), c.below(2) == 0)
		if verdict(n, steps) != api.OK {
			continue
		}
		confirmed++
		confirmIs(t, n, steps, api.OK)
		for range 50 {
			var counts []*big.Int
			for range n.Nodes {
				counts = append(counts, big.NewInt(int64(1+c.below(pick(&c, 1, 3, 64, 4096, 1<<31)))))
			}
			if !slices.ContainsFunc(steps, func(step api.Step) bool { return !level(n.Arcs[step.Arc], counts) }) {
				t.Fatal("these counts balance", n, steps, counts)
			}
		}
	}
	if confirmed < 800 {
		t.Errorf("%d cycles only", confirmed)
	}
}

// TestBegunElsewhere is P12.3: what Confirm answers of a cycle, it answers of the cycle begun at another of its steps, and of each of these the other way round.
func TestBegunElsewhere(t *testing.T) {
	c := chance(126)
	met := map[api.Errno]int{}
	for round := range 960 {
		n, steps := c.cycle(1+round%32, c.below(2) == 0)
		code := verdict(n, steps)
		met[code]++
		for at := range steps {
			begun := slices.Concat(steps[at:], steps[:at])
			confirmIs(t, n, begun, code)
			confirmIs(t, n, turned(begun), code)
		}
	}
	if met[api.OK] < 100 || met[api.ErrAlike] < 100 {
		t.Error("too few cycles of a kind", met)
	}
}

// TestOtherWayRound is P12.1 and P12.3: the other way round the two products change about, and what is no cycle is none.
func TestOtherWayRound(t *testing.T) {
	c := chance(127)
	for range 4000 {
		n := c.net()
		if len(n.Arcs) == 0 {
			continue
		}
		steps := c.steps(n, c.below(6))
		confirmIs(t, n, turned(steps), verdict(n, steps))
		if !named(n, steps) {
			continue
		}
		with, against := productsOf(n, steps)
		slices.Reverse(with)
		slices.Reverse(against)
		productsAre(t, n, turned(steps), against, with, api.OK)
	}
}
