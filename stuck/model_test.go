package stuck_test

import (
	"slices"
	"testing"

	"pianola/api"
	"pianola/net"
	"pianola/stuck"
)

const (
	least    = -9223372036854775808
	greatest = 9223372036854775807
)

func block(node, fired, arc int) api.Block { return api.Block{Node: node, Fired: fired, Arc: arc} }

func arc(from, to, give, take, start int) api.Arc {
	return api.Arc{From: from, To: to, Give: give, Take: take, Start: start}
}

func netOf(nodes int, arcs ...api.Arc) api.Net { return api.Net{Nodes: nodes, Arcs: arcs} }

// upTo are the numbers from 0 on, so many.
func upTo(many int) []int {
	all := make([]int, many)
	for i := range all {
		all[i] = i
	}
	return all
}

// blocksOf are all blocks of a node.
func blocksOf(node int, blocks []api.Block) []api.Block {
	var of []api.Block
	for _, b := range blocks {
		if b.Node == node {
			of = append(of, b)
		}
	}
	return of
}

// flawed tells whether a block of a sound net is one for which P14.1 says ErrBlock.
func flawed(n api.Net, blocks []api.Block, b api.Block) bool {
	if !slices.Contains(upTo(n.Nodes), b.Node) || len(blocksOf(b.Node, blocks)) != 1 {
		return true
	}
	if b.Fired != min(4096, max(0, b.Fired)) {
		return true
	}
	into := slices.DeleteFunc(upTo(len(n.Arcs)), func(i int) bool { return n.Arcs[i].To != b.Node })
	return !slices.Contains(into, b.Arc) || len(blocksOf(n.Arcs[b.Arc].From, blocks)) == 0
}

// bound is how many tokens a block's arc may have at the start, at most, so that the block still holds; no block is flawed. It may be below 0.
func bound(n api.Net, blocks []api.Block, b api.Block) int {
	a := n.Arcs[b.Arc]
	wanted, given := 0, 0
	for range b.Fired + 1 {
		wanted += a.Take
	}
	for range blocksOf(a.From, blocks)[0].Fired {
		given += a.Give
	}
	return wanted - 1 - given
}

// verdict is what Confirm is to answer: all flaws are looked for, whatever block they are of.
func verdict(n api.Net, blocks []api.Block) api.Errno {
	if e := net.Check(n); e != api.OK {
		return e
	}
	if len(blocks) == 0 || slices.ContainsFunc(blocks, func(b api.Block) bool { return flawed(n, blocks, b) }) {
		return api.ErrBlock
	}
	if slices.ContainsFunc(blocks, func(b api.Block) bool { return n.Arcs[b.Arc].Start > bound(n, blocks, b) }) {
		return api.ErrLoose
	}
	return api.OK
}

// confirmIs fails, unless Confirm answers this.
func confirmIs(t *testing.T, n api.Net, blocks []api.Block, code api.Errno) {
	t.Helper()
	if e := stuck.Confirm(n, blocks...); e != code {
		t.Fatalf("Confirm(%v, %v): %v, not %v", n, blocks, e, code)
	}
}

// agrees fails, unless Confirm answers what the model says, which it tells.
func agrees(t *testing.T, n api.Net, blocks []api.Block) api.Errno {
	t.Helper()
	code := verdict(n, blocks)
	confirmIs(t, n, blocks, code)
	return code
}

// begun is a state of a sound net at the start.
func begun(t *testing.T, n api.Net) *net.State {
	t.Helper()
	s, e := net.New(n)
	if e != api.OK {
		t.Fatalf("New(%v): %v", n, e)
	}
	return s
}
