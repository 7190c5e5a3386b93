package simul_test

import (
	"slices"
	"testing"

	"pianola/api"
	"pianola/net"
	"pianola/simul"
)

const (
	least    = -9223372036854775808
	greatest = 9223372036854775807
)

func block(node, fired, arc int) api.Block { return api.Block{Node: node, Fired: fired, Arc: arc} }

func arc(from, to, give, take, start int) api.Arc {
	return api.Arc{From: from, To: to, Give: give, Take: take, Start: start}
}

func netOf(nodes int, arcs ...api.Arc) api.Net { return api.Net{Nodes: nodes, Arcs: arcs} }

// list and stands are the two kinds of answers.
func list(nodes ...int) api.Period { return api.Period{List: nodes} }

func stands(blocks ...api.Block) api.Period { return api.Period{Stuck: blocks} }

// upTo are the numbers from 0 on, so many.
func upTo(many int) []int {
	all := make([]int, many)
	for i := range all {
		all[i] = i
	}
	return all
}

// times are counts, each so many times as great.
func times(reps []int, factor int) []int {
	all := slices.Clone(reps)
	for i := range all {
		all[i] *= factor
	}
	return all
}

// sum is what numbers are together, if they fit together.
func sum(numbers []int) int {
	all := 0
	for _, x := range numbers {
		all += x
	}
	return all
}

// balanced tells whether counts of a sound net, one a node, are from 1 to 4096 and balance.
func balanced(n api.Net, reps []int) bool {
	if slices.Min(reps) < 1 || slices.Max(reps) > 4096 {
		return false
	}
	return !slices.ContainsFunc(n.Arcs, func(a api.Arc) bool { return a.Give*reps[a.From] != a.Take*reps[a.To] })
}

// refusal is the error that Run is to answer.
func refusal(n api.Net, reps, prefer []int) api.Errno {
	if e := net.Check(n); e != api.OK {
		return e
	}
	if len(reps) != n.Nodes {
		return api.ErrArg
	}
	if !balanced(n, reps) {
		return api.ErrReps
	}
	if sum(reps) > 2048 {
		return api.ErrTooBig
	}
	if slices.ContainsFunc(prefer, func(node int) bool { return !slices.Contains(upTo(n.Nodes), node) }) {
		return api.ErrNode
	}
	return api.OK
}

// short are the in-arcs of a node that have too few tokens when the nodes have fired so often: what an arc has is reckoned from the firings alone.
func short(n api.Net, fired []int, node int) []int {
	return slices.DeleteFunc(upTo(len(n.Arcs)), func(i int) bool {
		a := n.Arcs[i]
		return a.To != node || a.Start+a.Give*fired[a.From] >= a.Take*(fired[a.To]+1)
	})
}

// ready are the nodes that may fire and have not fired as often as their count.
func ready(n api.Net, fired, reps []int) []int {
	return slices.DeleteFunc(upTo(n.Nodes), func(node int) bool {
		return fired[node] >= reps[node] || len(short(n, fired, node)) > 0
	})
}

// chosen is the one of some nodes that fires next.
func chosen(of, prefer []int) int {
	for _, node := range prefer {
		if slices.Contains(of, node) {
			return node
		}
	}
	return slices.Max(of)
}

// periodOf is what Run is to answer beside OK.
func periodOf(n api.Net, reps, prefer []int) api.Period {
	fired := make([]int, n.Nodes)
	var row []int
	for {
		may := ready(n, fired, reps)
		if len(may) == 0 {
			break
		}
		row = append(row, chosen(may, prefer))
		fired[row[len(row)-1]]++
	}
	if slices.Equal(fired, reps) {
		return list(row...)
	}
	var p api.Period
	for node := range reps {
		if fired[node] < reps[node] {
			p.Stuck = append(p.Stuck, block(node, fired[node], short(n, fired, node)[0]))
		}
	}
	return p
}

func same(a, b api.Period) bool {
	return slices.Equal(a.List, b.List) && slices.Equal(a.Stuck, b.Stuck)
}

// head are the first ones of a list, which may be too long to be told.
func head(list []int) []int { return list[:min(40, len(list))] }

// runIs fails, unless Run answers this and nothing beside it.
func runIs(t *testing.T, n api.Net, reps, prefer []int, want api.Period, code api.Errno) {
	t.Helper()
	if p, e := simul.Run(n, reps, prefer...); e != code || !same(p, want) {
		t.Fatalf("Run(%v, %v, %v): %v %v %v, not %v %v %v", n, head(reps), head(prefer), head(p.List), p.Stuck, e, head(want.List), want.Stuck, code)
	}
}

// agrees fails, unless Run answers what the model says, which it tells.
func agrees(t *testing.T, n api.Net, reps, prefer []int) (api.Period, api.Errno) {
	t.Helper()
	code := refusal(n, reps, prefer)
	var p api.Period
	if code == api.OK {
		p = periodOf(n, reps, prefer)
	}
	runIs(t, n, reps, prefer, p, code)
	return p, code
}

// answer is Run's of what is not refused.
func answer(t *testing.T, n api.Net, reps, prefer []int) api.Period {
	t.Helper()
	p, e := simul.Run(n, reps, prefer...)
	if e != api.OK {
		t.Fatalf("Run(%v, %v, %v): %v", n, head(reps), head(prefer), e)
	}
	return p
}

// start is a state of a sound net at the start.
func start(t *testing.T, n api.Net) *net.State {
	t.Helper()
	s, e := net.New(n)
	if e != api.OK {
		t.Fatalf("New(%v): %v", n, e)
	}
	return s
}
