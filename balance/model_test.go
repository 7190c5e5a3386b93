package balance_test

import (
	"math/big"
	"slices"
	"testing"

	"pianola/api"
	"pianola/balance"
)

const (
	least    = -9223372036854775808
	greatest = 9223372036854775807
)

// arc is one from a node to another.
func arc(from, to, give, take int) api.Arc {
	return api.Arc{From: from, To: to, Give: give, Take: take}
}

// netOf is a net of these arcs.
func netOf(nodes int, arcs ...api.Arc) api.Net { return api.Net{Nodes: nodes, Arcs: arcs} }

// along and back are steps.
func along(arc int) api.Step { return api.Step{Arc: arc} }

func back(arc int) api.Step { return api.Step{Arc: arc, Back: true} }

// steady, unlike and tooBig are the three answers.
func steady(reps ...int) api.Balance { return api.Balance{Verdict: api.Steady, Reps: reps} }

func unlike(cycle ...api.Step) api.Balance {
	return api.Balance{Verdict: api.Unlike, Cycle: cycle}
}

func tooBig() api.Balance { return api.Balance{Verdict: api.TooBig} }

// upTo are the numbers from 0 on, so many.
func upTo(many int) []int {
	all := make([]int, many)
	for i := range all {
		all[i] = i
	}
	return all
}

// joined tells of each two nodes whether these arcs join them: whatever is joined to a third one is joined.
func joined(n api.Net, arcs []int) [][]bool {
	is := make([][]bool, n.Nodes)
	for i := range is {
		is[i] = make([]bool, n.Nodes)
		is[i][i] = true
	}
	for _, at := range arcs {
		a := n.Arcs[at]
		is[a.From][a.To], is[a.To][a.From] = true, true
	}
	for by := range is {
		for i := range is {
			for j := range is {
				is[i][j] = is[i][j] || is[i][by] && is[by][j]
			}
		}
	}
	return is
}

// treeOf are the arcs of a sound net's forest, as the words define them.
func treeOf(n api.Net) []int {
	var tree []int
	is := joined(n, nil)
	for i, a := range n.Arcs {
		if !is[a.From][a.To] {
			tree = append(tree, i)
			is = joined(n, tree)
		}
	}
	return tree
}

// components are a sound net's nodes, those that are joined in one list.
func components(n api.Net) [][]int {
	var all [][]int
	for node, row := range joined(n, upTo(len(n.Arcs))) {
		if slices.Index(row, true) < node {
			continue
		}
		var members []int
		for other, is := range row {
			if is {
				members = append(members, other)
			}
		}
		all = append(all, members)
	}
	return all
}

// forestCounts are a sound net's, however great: rational numbers are put on one node of each component and told along the tree's arcs till nothing is left, and made whole and least then.
func forestCounts(n api.Net) []*big.Int {
	tree := treeOf(n)
	known := make([]*big.Rat, n.Nodes)
	counts := make([]*big.Int, n.Nodes)
	for _, members := range components(n) {
		known[members[len(members)-1]] = big.NewRat(1, 1)
		for range members {
			for _, at := range tree {
				tell(n.Arcs[at], known)
			}
		}
		common, multiple := new(big.Int), big.NewInt(1)
		for _, node := range members {
			den := known[node].Denom()
			shared := new(big.Int).GCD(nil, nil, multiple, den)
			multiple = new(big.Int).Div(new(big.Int).Mul(multiple, den), shared)
		}
		for _, node := range members {
			whole := new(big.Rat).Mul(known[node], new(big.Rat).SetInt(multiple))
			counts[node] = new(big.Int).Set(whole.Num())
			common = new(big.Int).GCD(nil, nil, common, counts[node])
		}
		for _, node := range members {
			counts[node].Div(counts[node], common)
		}
	}
	return counts
}

// tell reckons the count of an arc's one end, if that of the other one is known.
func tell(a api.Arc, known []*big.Rat) {
	rate := big.NewRat(int64(a.Give), int64(a.Take))
	if known[a.From] != nil && known[a.To] == nil {
		known[a.To] = new(big.Rat).Mul(known[a.From], rate)
	}
	if known[a.To] != nil && known[a.From] == nil {
		known[a.From] = new(big.Rat).Quo(known[a.To], rate)
	}
}

// level tells whether an arc balances.
func level(a api.Arc, from, to *big.Int) bool {
	given := new(big.Int).Mul(big.NewInt(int64(a.Give)), from)
	taken := new(big.Int).Mul(big.NewInt(int64(a.Take)), to)
	return given.Cmp(taken) == 0
}

// pathOf is the path along a tree: the arcs without which the two are apart, put in order.
func pathOf(n api.Net, tree []int, from, to int) []api.Step {
	var on []int
	for i, at := range tree {
		if rest := slices.Delete(slices.Clone(tree), i, i+1); !joined(n, rest)[from][to] {
			on = append(on, at)
		}
	}
	var steps []api.Step
	for node := from; len(on) > 0; {
		i := slices.IndexFunc(on, func(at int) bool { return n.Arcs[at].From == node || n.Arcs[at].To == node })
		a := n.Arcs[on[i]]
		steps = append(steps, api.Step{Arc: on[i], Back: a.To == node})
		node = a.From + a.To - node
		on = slices.Delete(on, i, i+1)
	}
	return steps
}

// solved is what Solve is to answer of a sound net.
func solved(n api.Net) api.Balance {
	counts := forestCounts(n)
	reps := make([]int, n.Nodes)
	for node, count := range counts {
		if count.Cmp(big.NewInt(4096)) > 0 {
			return tooBig()
		}
		reps[node] = int(count.Int64())
	}
	for i, a := range n.Arcs {
		if !level(a, counts[a.From], counts[a.To]) {
			return unlike(append([]api.Step{along(i)}, pathOf(n, treeOf(n), a.To, a.From)...)...)
		}
	}
	return steady(reps...)
}

// holding is whether Holds is to be yes of a sound net and as many counts as nodes.
func holding(n api.Net, reps []int) bool {
	for _, rep := range reps {
		if rep < 1 || rep > 4096 {
			return false
		}
	}
	return !slices.ContainsFunc(n.Arcs, func(a api.Arc) bool {
		return !level(a, big.NewInt(int64(reps[a.From])), big.NewInt(int64(reps[a.To])))
	})
}

// solveIs fails, unless Solve answers this and nothing beside it.
func solveIs(t *testing.T, n api.Net, want api.Balance, code api.Errno) {
	t.Helper()
	b, e := balance.Solve(n)
	if e != code || b.Verdict != want.Verdict || !slices.Equal(b.Reps, want.Reps) || !slices.Equal(b.Cycle, want.Cycle) {
		t.Fatalf("Solve(%v): %v %v, not %v %v", n, b, e, want, code)
	}
}

// holdsIs fails, unless Holds answers this.
func holdsIs(t *testing.T, n api.Net, reps []int, want bool, code api.Errno) {
	t.Helper()
	if is, e := balance.Holds(n, reps...); is != want || e != code {
		if len(reps) > 40 {
			reps = reps[:40]
		}
		t.Fatalf("Holds(%v, %v): %v %v, not %v %v", n, reps, is, e, want, code)
	}
}

// refused fails, unless both calls answer this error and nothing beside it.
func refused(t *testing.T, n api.Net, reps []int, code api.Errno) {
	t.Helper()
	solveIs(t, n, api.Balance{}, code)
	holdsIs(t, n, reps, false, code)
}

// answer is Solve's of a sound net.
func answer(t *testing.T, n api.Net) api.Balance {
	t.Helper()
	b, e := balance.Solve(n)
	if e != api.OK {
		t.Fatalf("Solve(%v): %v", n, e)
	}
	return b
}
