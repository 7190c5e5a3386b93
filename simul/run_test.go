package simul_test

import (
	"slices"
	"testing"

	"pianola/api"
	"pianola/net"
)

// twoThree is the net of most of the chapter's examples, pair the one with the two arcs of chapter 14.
func twoThree() api.Net { return netOf(2, arc(0, 1, 2, 3, 0)) }

func pair() api.Net { return netOf(2, arc(0, 1, 1, 1, 0), arc(1, 0, 2, 2, 1)) }

// TestExamples is P15.1 and P15.2: the chapter's examples.
func TestExamples(t *testing.T) {
	runIs(t, twoThree(), []int{3, 2}, nil, list(0, 0, 1, 0, 1), api.OK)
	runIs(t, twoThree(), []int{3, 2}, []int{0}, list(0, 0, 0, 1, 1), api.OK)
	runIs(t, twoThree(), []int{6, 4}, nil, list(0, 0, 1, 0, 1, 0, 0, 1, 0, 1), api.OK)
	runIs(t, twoThree(), []int{3, 3}, nil, api.Period{}, api.ErrReps)
	runIs(t, netOf(2), []int{1, 2}, nil, list(1, 1, 0), api.OK)
	runIs(t, pair(), []int{1, 1}, nil, stands(block(0, 0, 1), block(1, 0, 0)), api.OK)
	runIs(t, netOf(2, arc(0, 1, 1, 1, 0), arc(1, 1, 1, 1, 0)), []int{1, 1}, nil, stands(block(1, 0, 1)), api.OK)
}

// TestPrefer is P15.2: of those that may fire the one that stands first in prefer, then the greatest; what may not fire, or has fired enough, is passed over.
func TestPrefer(t *testing.T) {
	free, reps := netOf(4), []int{1, 2, 1, 2}
	for _, c := range []struct{ prefer, row []int }{
		{nil, []int{3, 3, 2, 1, 1, 0}},
		{[]int{}, []int{3, 3, 2, 1, 1, 0}},
		{[]int{0}, []int{0, 3, 3, 2, 1, 1}},
		{[]int{1}, []int{1, 1, 3, 3, 2, 0}},
		{[]int{3}, []int{3, 3, 2, 1, 1, 0}},
		{[]int{0, 1}, []int{0, 1, 1, 3, 3, 2}},
		{[]int{1, 0}, []int{1, 1, 0, 3, 3, 2}},
		{[]int{2, 0}, []int{2, 0, 3, 3, 1, 1}},
		{[]int{1, 0, 1}, []int{1, 1, 0, 3, 3, 2}},
		{[]int{0, 1, 0, 0}, []int{0, 1, 1, 3, 3, 2}},
		{[]int{2, 2, 2}, []int{2, 3, 3, 1, 1, 0}},
		{[]int{0, 1, 2, 3}, []int{0, 1, 1, 2, 3, 3}},
		{[]int{3, 2, 1, 0}, []int{3, 3, 2, 1, 1, 0}},
		{[]int{2, 0, 3, 1}, []int{2, 0, 3, 3, 1, 1}},
	} {
		runIs(t, free, reps, c.prefer, list(c.row...), api.OK)
	}
	row := netOf(3, arc(0, 1, 1, 1, 0), arc(1, 2, 1, 1, 0))
	for _, c := range []struct{ prefer, row []int }{
		{nil, []int{0, 1, 2, 0, 1, 2}},
		{[]int{0}, []int{0, 0, 1, 2, 1, 2}},
		{[]int{1}, []int{0, 1, 2, 0, 1, 2}},
		{[]int{2, 1, 0}, []int{0, 1, 2, 0, 1, 2}},
		{[]int{2, 0}, []int{0, 0, 1, 2, 1, 2}},
		{[]int{0, 1}, []int{0, 0, 1, 1, 2, 2}},
		{[]int{1, 0}, []int{0, 1, 0, 1, 2, 2}},
		{[]int{0, 1, 2}, []int{0, 0, 1, 1, 2, 2}},
		{[]int{1, 0, 2}, []int{0, 1, 0, 1, 2, 2}},
	} {
		runIs(t, row, []int{2, 2, 2}, c.prefer, list(c.row...), api.OK)
	}
}

// TestOneNode is P15.2: a node alone, with and without an arc to itself.
func TestOneNode(t *testing.T) {
	for rep := 1; rep <= 2048; rep += 89 {
		row := list(make([]int, rep)...)
		for _, prefer := range [][]int{nil, {0}, {0, 0, 0}} {
			runIs(t, netOf(1), []int{rep}, prefer, row, api.OK)
			for _, rate := range []int{1, 2, 63, 64} {
				runIs(t, netOf(1, arc(0, 0, rate, rate, rate)), []int{rep}, prefer, row, api.OK)
				runIs(t, netOf(1, arc(0, 0, rate, rate, 256)), []int{rep}, prefer, row, api.OK)
				runIs(t, netOf(1, arc(0, 0, rate, rate, rate-1)), []int{rep}, prefer, stands(block(0, 0, 0)), api.OK)
				runIs(t, netOf(1, arc(0, 0, rate, rate, 0)), []int{rep}, prefer, stands(block(0, 0, 0)), api.OK)
			}
		}
	}
}

// TestStart is P15.2: the tokens at the start are there from the first firing on, and are not given back to be taken ahead of it.
func TestStart(t *testing.T) {
	ring := func(ahead, back int) api.Net { return netOf(2, arc(0, 1, 2, 3, ahead), arc(1, 0, 3, 2, back)) }
	for _, c := range []struct {
		ahead, back int
		want        api.Period
	}{
		{0, 0, stands(block(0, 0, 1), block(1, 0, 0))},
		{0, 3, stands(block(0, 1, 1), block(1, 0, 0))},
		{2, 1, stands(block(0, 0, 1), block(1, 0, 0))},
		{1, 2, stands(block(0, 2, 1), block(1, 1, 0))},
		{1, 3, list(0, 1, 0, 0, 1)},
		{0, 4, list(0, 0, 1, 0, 1)},
		{3, 0, stands(block(0, 1, 1), block(1, 1, 0))},
		{3, 1, list(1, 0, 0, 1, 0)},
		{4, 0, list(1, 0, 1, 0, 0)},
		{6, 0, list(1, 1, 0, 0, 0)},
		{256, 256, list(1, 1, 0, 0, 0)},
	} {
		runIs(t, ring(c.ahead, c.back), []int{3, 2}, nil, c.want, api.OK)
	}
}

// TestBlocks is P15.2: blocks stand by rising nodes, have the first in-arc that lacks tokens, and there are none of nodes that have fired enough; what fired before is told by Fired alone.
func TestBlocks(t *testing.T) {
	n := netOf(5,
		arc(4, 2, 1, 1, 9), // has enough
		arc(1, 2, 1, 1, 1), // 1 and 2 hold each other behind one firing of 2
		arc(0, 2, 1, 1, 0), // 0 fires as often as it may
		arc(2, 1, 1, 1, 0), // and 1 gives nothing back, since
		arc(1, 1, 2, 2, 1), // it stands still by itself
		arc(2, 3, 2, 1, 1), // 3 comes as far as it is fed
		arc(3, 3, 1, 1, 0), // but for this
	)
	want := stands(block(1, 0, 4), block(2, 1, 1), block(3, 0, 6))
	for _, prefer := range [][]int{nil, {0}, {1}, {2}, {3, 2, 1}, {4, 3, 2, 1, 0}, {0, 1, 2, 3, 4}} {
		runIs(t, n, []int{3, 3, 3, 6, 3}, prefer, want, api.OK)
	}
	n.Arcs[6].Start = 1
	runIs(t, n, []int{3, 3, 3, 6, 3}, nil, stands(block(1, 0, 4), block(2, 1, 1), block(3, 3, 5)), api.OK)
	n.Arcs[4].Start = 2
	runIs(t, n, []int{1, 1, 1, 2, 1}, []int{0, 4}, list(0, 4, 3, 2, 3, 1), api.OK)
	both := netOf(3, arc(0, 2, 1, 1, 0), arc(2, 0, 1, 1, 0), arc(1, 2, 1, 1, 0), arc(2, 1, 1, 1, 0))
	runIs(t, both, []int{1, 1, 1}, nil, stands(block(0, 0, 1), block(1, 0, 3), block(2, 0, 0)), api.OK)
	both.Arcs[1].Start = 1
	runIs(t, both, []int{1, 1, 1}, nil, stands(block(1, 0, 3), block(2, 0, 2)), api.OK)
}

// wrong are nets of each kind that net.Check refuses.
func wrong() map[api.Errno][]api.Net {
	spoilt := func(set func(a *api.Arc)) api.Net {
		n := pair()
		n.Arcs = append(n.Arcs, arc(0, 1, 1, 1, 0))
		set(&n.Arcs[2])
		return n
	}
	return map[api.Errno][]api.Net{
		api.ErrNode: {
			{}, {Nodes: -1}, {Nodes: least}, {Nodes: 33}, {Nodes: greatest, Arcs: pair().Arcs}, {Arcs: pair().Arcs}, {Nodes: 1, Arcs: pair().Arcs},
			spoilt(func(a *api.Arc) { a.From = -1 }), spoilt(func(a *api.Arc) { a.From = 2 }), spoilt(func(a *api.Arc) { a.From = greatest }),
			spoilt(func(a *api.Arc) { a.To = -1 }), spoilt(func(a *api.Arc) { a.To = 2 }), spoilt(func(a *api.Arc) { a.To = least }),
		},
		api.ErrMany: {
			{Nodes: 2, Arcs: append(slices.Repeat(pair().Arcs, 48), arc(0, 1, 1, 1, 0))}, {Nodes: 2, Arcs: make([]api.Arc, 97)},
		},
		api.ErrRate: {
			spoilt(func(a *api.Arc) { a.Give = 0 }), spoilt(func(a *api.Arc) { a.Give = 65 }), spoilt(func(a *api.Arc) { a.Give = least }),
			spoilt(func(a *api.Arc) { a.Take = 0 }), spoilt(func(a *api.Arc) { a.Take = 65 }), spoilt(func(a *api.Arc) { a.Take = greatest }),
		},
		api.ErrStart: {
			spoilt(func(a *api.Arc) { a.Start = -1 }), spoilt(func(a *api.Arc) { a.Start = 257 }), spoilt(func(a *api.Arc) { a.Start = greatest }),
		},
	}
}

// TestRefusedNets is P15.1: each thing for which net.Check refuses a net, ahead of whatever is wrong with the counts or with prefer, and where nothing is.
func TestRefusedNets(t *testing.T) {
	for code, nets := range wrong() {
		for _, n := range nets {
			if e := net.Check(n); e != code {
				t.Fatalf("%v: %v", n, e)
			}
			for _, reps := range [][]int{nil, {1}, {1, 1}, {1, 2}, {1, 1, 1}, {0, least}, {2048, 2048}, {greatest, greatest}, make([]int, 5000)} {
				for _, prefer := range [][]int{nil, {0}, {1, 0}, {-1}, {2}, {greatest, least}} {
					runIs(t, n, reps, prefer, api.Period{}, code)
				}
			}
		}
	}
}

// TestOtherThanNodes is P15.1: not as many counts as nodes, ahead of whatever the counts are and what is wrong with prefer.
func TestOtherThanNodes(t *testing.T) {
	for nodes := 1; nodes <= 32; nodes++ {
		for many := range 40 {
			code := api.ErrArg
			if many == nodes {
				code = api.OK
			}
			if _, e := agrees(t, netOf(nodes), slices.Repeat([]int{1}, many), nil); e != code {
				t.Fatalf("%d nodes, %d counts: %v", nodes, many, e)
			}
		}
	}
	for _, reps := range [][]int{nil, {}, {3}, {3, 2, 1}, {3, 2, 0}, {0}, {least}, {greatest}, {4096}, {3, 3, 3}, {greatest, greatest, greatest}, {2048, 2048, 2048}, make([]int, 100000)} {
		for _, prefer := range [][]int{nil, {1}, {-1}, {2}, {0, greatest}} {
			runIs(t, twoThree(), reps, prefer, api.Period{}, api.ErrArg)
		}
	}
}

// TestNotBalanced is P15.1: counts that do not balance, or are not from 1 to MaxRep, ahead of what they are together and what is wrong with prefer.
func TestNotBalanced(t *testing.T) {
	for _, prefer := range [][]int{nil, {1}, {-1}, {2}, {0, greatest}} {
		for _, reps := range [][]int{{3, 3}, {2, 2}, {2, 3}, {1, 1}, {3, 1}, {0, 0}, {-3, -2}, {0, 2}, {3, 0}, {6, 2}, {3, 4}, {2048, 1}, {4096, 4096}, {4098, 2732}, {greatest, greatest}, {least, least}, {least, 0}} {
			runIs(t, twoThree(), reps, prefer, api.Period{}, api.ErrReps)
		}
		for _, rep := range []int{least, least + 1, -4096, -1, 0, 4097, 8192, 1 << 32, 1 << 62, greatest} {
			for node := range 3 {
				reps := []int{1, 1, 1}
				reps[node] = rep
				runIs(t, netOf(3), reps, prefer, api.Period{}, api.ErrReps)
				runIs(t, netOf(1, arc(0, 0, 1, 1, 1)), []int{rep}, prefer, api.Period{}, api.ErrReps)
			}
		}
		runIs(t, netOf(1, arc(0, 0, 2, 1, 9)), []int{1}, prefer, api.Period{}, api.ErrReps)
		runIs(t, netOf(2, arc(0, 1, 1, 1, 0), arc(0, 1, 2, 1, 0)), []int{1, 1}, prefer, api.Period{}, api.ErrReps)
		runIs(t, netOf(32), slices.Repeat([]int{1 << 59}, 32), prefer, api.Period{}, api.ErrReps) // together 2^64, which is 0 if it wraps round
	}
}

// TestTooMany is P15.1: up to MaxFirings, added up, and no more; each count alone may be up to MaxRep; ahead of what is wrong with prefer.
func TestTooMany(t *testing.T) {
	row := func(reps ...int) api.Period {
		var p api.Period
		for node, rep := range slices.Backward(reps) {
			p.List = append(p.List, slices.Repeat([]int{node}, rep)...)
		}
		return p
	}
	for _, reps := range [][]int{{2048}, {1024, 1024}, {1, 2047}, {2047, 1}, {2046, 1, 1}, slices.Repeat([]int{64}, 32), {2047}, {1023, 1024}} {
		runIs(t, netOf(len(reps)), reps, nil, row(reps...), api.OK)
		runIs(t, netOf(len(reps)), reps, []int{0, len(reps)}, api.Period{}, api.ErrNode)
	}
	for _, prefer := range [][]int{nil, {0}, {-1}, {32}, {0, greatest}} {
		for _, reps := range [][]int{{2049}, {4096}, {1024, 1025}, {1025, 1024}, {1, 2048}, {2048, 1}, {2046, 1, 2}, {4096, 4096}, append(slices.Repeat([]int{64}, 31), 65), slices.Repeat([]int{65}, 32), slices.Repeat([]int{4096}, 32)} {
			runIs(t, netOf(len(reps)), reps, prefer, api.Period{}, api.ErrTooBig)
		}
		runIs(t, netOf(2, arc(0, 1, 64, 1, 0)), []int{32, 2048}, prefer, api.Period{}, api.ErrTooBig)
		runIs(t, pair(), []int{1025, 1025}, prefer, api.Period{}, api.ErrTooBig)
	}
	runIs(t, pair(), []int{1024, 1024}, nil, stands(block(0, 0, 1), block(1, 0, 0)), api.OK)
	agrees(t, netOf(2, arc(0, 1, 64, 1, 0)), []int{31, 1984}, nil)
}

// TestPreferIsNone is P15.1: one of prefer names no node, below 0 and past the last one, at each place, whether a period can be ended or not.
func TestPreferIsNone(t *testing.T) {
	for _, none := range []int{least, least + 1, -1 << 32, -2, -1, 2, 3, 32, 1 << 32, greatest} {
		for at := range 6 {
			prefer := slices.Insert([]int{1, 0, 1, 1, 0}, at, none)
			runIs(t, twoThree(), []int{3, 2}, prefer, api.Period{}, api.ErrNode)
			runIs(t, pair(), []int{1, 1}, prefer, api.Period{}, api.ErrNode)
		}
		runIs(t, twoThree(), []int{3, 2}, []int{none}, api.Period{}, api.ErrNode)
		runIs(t, pair(), []int{1, 1}, []int{none, none}, api.Period{}, api.ErrNode)
	}
	for nodes := 1; nodes <= 32; nodes++ {
		for node := -2; node < 36; node++ {
			code := api.ErrNode
			if node >= 0 && node < nodes {
				code = api.OK
			}
			if _, e := agrees(t, netOf(nodes), slices.Repeat([]int{1}, nodes), []int{node}); e != code {
				t.Fatalf("%d nodes, %d: %v", nodes, node, e)
			}
		}
	}
}

// TestLongPrefer is P15.1 and P15.2: prefer may be far longer than there are nodes; the first place of each counts, and the last one of all is looked at.
func TestLongPrefer(t *testing.T) {
	long := append(slices.Repeat([]int{2}, 1000000), slices.Repeat([]int{0, 2}, 500000)...)
	runIs(t, netOf(4), []int{1, 2, 1, 2}, long, list(2, 0, 3, 3, 1, 1), api.OK)
	runIs(t, netOf(4), []int{1, 2, 1, 2}, append(long, 1), list(2, 0, 1, 1, 3, 3), api.OK)
	runIs(t, netOf(4), []int{1, 2, 1, 2}, append(long, 4), api.Period{}, api.ErrNode)
}

// TestEverySmallNet is P15.1 to P15.3: all nets of two nodes and two arcs with rates up to 2 and starts up to 3, some counts and all that prefer can say of two nodes, against a model.
func TestEverySmallNet(t *testing.T) {
	lists, blocks, refused := 0, 0, 0
	for _, n := range smallNets() {
		for _, reps := range [][]int{{1, 1}, {1, 2}, {2, 1}, {2, 2}, {2, 4}} {
			for _, prefer := range [][]int{nil, {0}, {1}, {0, 1}, {1, 0}} {
				switch p, e := agrees(t, n, reps, prefer); {
				case e != api.OK:
					refused++
				case len(p.List) > 0:
					lists++
				default:
					blocks++
				}
			}
		}
	}
	if lists < 1000 || blocks < 1000 || refused < 1000 {
		t.Error("too few of a kind", lists, blocks, refused)
	}
}

// TestMixed is P15.1 and P15.2: many nets, counts and preferences, some of which are wrong, against a model.
func TestMixed(t *testing.T) {
	c := chance(151)
	met := map[api.Errno]int{}
	lists, blocks, some, fired := 0, 0, 0, 0
	for round := range 12000 {
		n, reps := c.period(c.sizes())
		prefer, counts := c.prefer(n.Nodes), reps
		for range round % 3 {
			switch c.below(5) {
			case 0, 1:
				counts = c.flawReps(reps)
			case 2, 3:
				prefer = c.flawPrefer(prefer, n.Nodes)
			case 4:
				c.spoil(&n)
			}
		}
		p, e := agrees(t, n, counts, prefer)
		met[e]++
		switch {
		case len(p.List) > 0:
			lists++
		case len(p.Stuck) > 0:
			blocks++
			some += min(1, n.Nodes-len(p.Stuck))
			fired += min(1, slices.MaxFunc(p.Stuck, func(a, b api.Block) int { return a.Fired - b.Fired }).Fired)
		}
	}
	for _, e := range []api.Errno{api.ErrNode, api.ErrMany, api.ErrRate, api.ErrStart, api.ErrArg, api.ErrReps, api.ErrTooBig} {
		if met[e] < 20 {
			t.Errorf("%v: %d only", e, met[e])
		}
	}
	if lists < 1000 || blocks < 1000 || some < 300 || fired < 300 {
		t.Error("too few of a kind", lists, blocks, some, fired)
	}
}

// TestLimits is P15.2 at the limits: all nodes, all arcs, as many firings as there may be, the greatest rates.
func TestLimits(t *testing.T) {
	reps := slices.Repeat([]int{64}, 32)
	var ring, own, two, chain []api.Arc
	for i := range 96 {
		ring = append(ring, arc(i%32, (i+1)%32, 64, 64, 0))
		own = append(own, arc(i%32, i%32, 64, 64, 256))
		two = append(two, arc(0, 1, 64, 32, 0))
		chain = append(chain, arc(i%31, i%31+1, 64, 64, i%2*256))
	}
	for _, prefer := range [][]int{nil, {0}, {31}, upTo(32), {5, 9, 30, 0}} {
		p, _ := agrees(t, netOf(32, ring...), reps, prefer)
		if len(p.Stuck) != 32 {
			t.Fatal(p)
		}
		for i := range ring {
			ring[i].Start = i % 32 / 31 * 256
		}
		p, _ = agrees(t, netOf(32, ring...), reps, prefer)
		if len(p.List) != 2048 {
			t.Fatal(p)
		}
		for i := range ring {
			ring[i].Start = 0
		}
		p, _ = agrees(t, netOf(32, own...), reps, prefer)
		if len(p.List) != 2048 {
			t.Fatal(p)
		}
		own[95].Start = 63
		p, _ = agrees(t, netOf(32, own...), reps, prefer)
		if !slices.Equal(p.Stuck, []api.Block{block(31, 0, 95)}) {
			t.Fatal(p)
		}
		own[95].Start = 256
		agrees(t, netOf(32, chain...), reps, prefer)
	}
	for _, prefer := range [][]int{nil, {0}, {1}} {
		agrees(t, netOf(2, two...), []int{682, 1364}, prefer)
	}
}
