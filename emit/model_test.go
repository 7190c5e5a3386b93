package emit_test

import (
	"math/big"
	"slices"
	"strconv"
	"strings"
	"testing"

	"pianola/api"
	"pianola/code"
	"pianola/emit"
	"pianola/graph"
	"pianola/nest"
	"pianola/source"
)

const (
	least    = -9223372036854775808
	greatest = 9223372036854775807
)

func leaf(node, times int) api.Loop { return api.Loop{Times: times, Node: node} }

func block(times int, body ...api.Loop) api.Loop { return api.Loop{Times: times, Body: body} }

func row(loops ...api.Loop) []api.Loop { return loops }

func list[T any](of ...T) []T { return of }

// within is a loop within blocks that go round so often, the first one outermost.
func within(loop api.Loop, times ...int) api.Loop {
	for _, t := range slices.Backward(times) {
		loop = block(t, loop)
	}
	return loop
}

// planOf is one of regions, each told by its Base and its Size.
func planOf(total int, numbers ...int) api.Plan {
	p := api.Plan{Total: total}
	for i := 0; i < len(numbers); i += 2 {
		p.Regions = append(p.Regions, api.Region{Base: numbers[i], Size: numbers[i+1]})
	}
	return p
}

// parsed is the graph of a text.
func parsed(t *testing.T, text string) api.Graph {
	t.Helper()
	g, err := source.Parse(text)
	if err != nil {
		t.Fatal(text, err)
	}
	return g
}

// small is the graph of the chapter's examples.
func small(t *testing.T) api.Graph {
	t.Helper()
	return parsed(t, "graph g { actor a = up 2; actor b = sum; edge a.0 -> b.0 with 7; in x -> a.0; out b.0 -> y; }")
}

// ratesOf are those of an actor's in-ports and of its out-ports, by the table of chapter 6.
func ratesOf(a api.Actor) (takes, gives []int) {
	n, m := 0, 0
	if len(a.Params) > 0 {
		n, m = a.Params[0], a.Params[len(a.Params)-1]
	}
	one := list(1)
	switch a.Tag {
	case api.Filter, api.Sum:
		return one, one
	case api.Up:
		return one, list(n)
	case api.Down:
		return list(n), one
	case api.Weave:
		return slices.Repeat(list(m), n), list(n * m)
	case api.Unweave:
		return list(n * m), slices.Repeat(list(m), n)
	case api.Add:
		return slices.Repeat(one, n), one
	case api.Quot:
		return list(1, 1), one
	case api.Copy:
		return one, slices.Repeat(one, n)
	case api.Tick:
		return nil, one
	case api.Drop:
		return list(n), nil
	}
	panic("no such tag")
}

// firingOf is what an actor's firing does, a word for each port: laid out by going over all that is on its ports, and put in order then.
func firingOf(g api.Graph, actor int) []api.Op {
	takes, gives := ratesOf(g.Actors[actor])
	seats := make([]api.Op, len(takes)+1+len(gives))
	seats[len(takes)] = api.Op{Kind: api.OpCall, A: actor}
	for e, edge := range g.Edges {
		if edge.To == actor {
			seats[edge.ToPort] = api.Op{Kind: api.OpTake, A: e, B: takes[edge.ToPort]}
		}
		if edge.From == actor {
			seats[len(takes)+1+edge.FromPort] = api.Op{Kind: api.OpGive, A: e, B: gives[edge.FromPort]}
		}
	}
	for i, in := range g.Ins {
		if in.Actor == actor {
			seats[in.Port] = api.Op{Kind: api.OpRead, A: i, B: takes[in.Port]}
		}
	}
	for o, out := range g.Outs {
		if out.Actor == actor {
			seats[len(takes)+1+out.Port] = api.Op{Kind: api.OpWrite, A: o, B: gives[out.Port]}
		}
	}
	return seats
}

// opsOf are the operations of loops that begin at a place and are within so many loops that go round more than once.
func opsOf(g api.Graph, place, around int, loops []api.Loop) []api.Op {
	var all []api.Op
	for _, loop := range loops {
		here, deeper := place+len(all), around
		if loop.Times > 1 {
			here++
			deeper++
		}
		inside := firingOrBody(g, here, deeper, loop)
		if loop.Times > 1 {
			inside = slices.Concat(list(api.Op{Kind: api.OpHead, A: around, B: loop.Times}), inside, list(api.Op{Kind: api.OpBack, A: around, B: here}))
		}
		all = append(all, inside...)
	}
	return all
}

func firingOrBody(g api.Graph, place, around int, loop api.Loop) []api.Op {
	if len(loop.Body) == 0 {
		return firingOf(g, loop.Node)
	}
	return opsOf(g, place, around, loop.Body)
}

// countersOf is how many loops that go round more than once stand within one another at most.
func countersOf(loops []api.Loop) int {
	most := 0
	for _, loop := range loops {
		deep := countersOf(loop.Body)
		if loop.Times > 1 {
			deep++
		}
		most = max(most, deep)
	}
	return most
}

// programOf is the program that Make is to answer, if nothing is wrong.
func programOf(g api.Graph, plan api.Plan, loops []api.Loop) api.Program {
	p := api.Program{Memory: plan.Total, Counters: countersOf(loops), Ins: len(g.Ins), Outs: len(g.Outs)}
	for _, a := range g.Actors {
		p.Parts = append(p.Parts, api.Part{Tag: a.Tag, Params: a.Params})
	}
	for e, edge := range g.Edges {
		p.Lines = append(p.Lines, api.Line{Region: plan.Regions[e], Start: edge.Start})
	}
	p.Ops = append(opsOf(g, 0, 0, loops), api.Op{Kind: api.OpEnd})
	return p
}

// nodesOf are those of a nest's leaves.
func nodesOf(loops []api.Loop) []int {
	var nodes []int
	for _, loop := range loops {
		if len(loop.Body) == 0 {
			nodes = append(nodes, loop.Node)
		}
		nodes = append(nodes, nodesOf(loop.Body)...)
	}
	return nodes
}

// refusalOf is what is wrong with what Make is given.
func refusalOf(g api.Graph, plan api.Plan, loops []api.Loop) api.Errno {
	if e := graph.Check(g); e != api.OK {
		return e
	}
	if e := nest.Check(loops...); e != api.OK {
		return e
	}
	for _, node := range nodesOf(loops) {
		if node < 0 || node >= len(g.Actors) {
			return api.ErrNode
		}
	}
	if wrongPlan(plan, g.Edges) {
		return api.ErrPlan
	}
	return api.OK
}

func wrongPlan(plan api.Plan, edges []api.Edge) bool {
	wrong := len(plan.Regions) != len(edges) || plan.Total < 0 || plan.Total > 1024
	for i := range min(len(plan.Regions), len(edges)) {
		r := plan.Regions[i]
		behind := new(big.Int).Add(big.NewInt(int64(r.Base)), big.NewInt(int64(r.Size)))
		wrong = wrong || r.Base < 0 || r.Size < 0 || behind.Cmp(big.NewInt(int64(plan.Total))) > 0 || len(edges[i].Start) > r.Size
	}
	return wrong
}

// same tells whether two programs are the same; lists without elements are.
func same(p, q api.Program) bool {
	parts := slices.EqualFunc(p.Parts, q.Parts, func(a, b api.Part) bool { return a.Tag == b.Tag && slices.Equal(a.Params, b.Params) })
	lines := slices.EqualFunc(p.Lines, q.Lines, func(a, b api.Line) bool { return a.Region == b.Region && slices.Equal(a.Start, b.Start) })
	return parts && lines && slices.Equal(p.Ops, q.Ops) && p.Memory == q.Memory && p.Counters == q.Counters && p.Ins == q.Ins && p.Outs == q.Outs
}

// shown are operations as text, parted by ", "; their beginning, if they are many.
func shown(ops []api.Op) string {
	var words []string
	for _, op := range ops[:min(60, len(ops))] {
		word, _ := code.Show(op)
		words = append(words, word)
	}
	return strings.Join(words, ", ")
}

// told is a program as text.
func told(p api.Program) string {
	text := "memory " + strconv.Itoa(p.Memory) + " counters " + strconv.Itoa(p.Counters) + " ins " + strconv.Itoa(p.Ins) + " outs " + strconv.Itoa(p.Outs)
	return text + " parts " + strconv.Itoa(len(p.Parts)) + " lines " + strconv.Itoa(len(p.Lines)) + ": " + shown(p.Ops)
}

// toldNest is a nest as chapter 16 writes it; its beginning, if it is long.
func toldNest(loops []api.Loop) string {
	var words []string
	for _, loop := range loops[:min(20, len(loops))] {
		word := strconv.Itoa(loop.Node)
		if len(loop.Body) > 0 {
			word = "(" + toldNest(loop.Body) + ")"
		}
		words = append(words, word+"^"+strconv.Itoa(loop.Times))
	}
	return strings.Join(words, " ")
}

// made is the program of what is sound.
func made(t *testing.T, g api.Graph, plan api.Plan, loops ...api.Loop) api.Program {
	t.Helper()
	p, e := emit.Make(g, plan, loops...)
	if e != api.OK {
		t.Fatalf("Make(%v, %v, %s): %v", g, plan, toldNest(loops), e)
	}
	return p
}

// makes fails, unless Make answers this program.
func makes(t *testing.T, g api.Graph, plan api.Plan, loops []api.Loop, want api.Program) {
	t.Helper()
	if p := made(t, g, plan, loops...); !same(p, want) {
		t.Fatalf("Make(%v, %v, %s): %s, not %s", g, plan, toldNest(loops), told(p), told(want))
	}
}

// ops fails, unless the program that Make answers has so many counters and these operations.
func ops(t *testing.T, g api.Graph, plan api.Plan, loops []api.Loop, counters int, want string) {
	t.Helper()
	if p := made(t, g, plan, loops...); shown(p.Ops) != want || p.Counters != counters {
		t.Fatalf("Make(%v, %v, %s): %s, not %d counters: %s", g, plan, toldNest(loops), told(p), counters, want)
	}
}

// refuses fails, unless Make answers this error, and a program of noughts. (It does not tell the nest, which may be within itself.)
func refuses(t *testing.T, g api.Graph, plan api.Plan, loops []api.Loop, why api.Errno) {
	t.Helper()
	p, e := emit.Make(g, plan, loops...)
	if e != why || !same(p, api.Program{}) {
		t.Fatalf("Make(%v, %v, a nest): %s %v, not %v", g, plan, told(p), e, why)
	}
}

// agrees fails, unless Make answers what the model does, whose error is told.
func agrees(t *testing.T, g api.Graph, plan api.Plan, loops []api.Loop) api.Errno {
	t.Helper()
	e := refusalOf(g, plan, loops)
	if e == api.OK {
		makes(t, g, plan, loops, programOf(g, plan, loops))
	} else {
		refuses(t, g, plan, loops, e)
	}
	return e
}
