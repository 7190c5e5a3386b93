package peaks_test

import (
	"slices"
	"testing"

	"pianola/api"
)

// ring is the net of the chapter's examples.
func ring() api.Net { return netOf(2, arc(0, 1, 2, 3, 0), arc(1, 0, 3, 2, 4)) }

// TestExamples is P18.1 to P18.4: the chapter's examples.
func TestExamples(t *testing.T) {
	alongIs(t, ring(), nil, []int{0, 4})
	alongIs(t, ring(), []int{0, 0, 1}, []int{0, 4}, []int{2, 2}, []int{4, 0}, []int{1, 3})
	mostIs(t, ring(), []int{0, 0, 1}, 4, 4)
	homeIs(t, ring(), []int{0, 0, 1}, false)
	homeIs(t, ring(), []int{0, 0, 1, 0, 1}, true)
	homeIs(t, ring(), nil, true)
	refuses(t, ring(), []int{1}, api.ErrFire)
	refuses(t, ring(), []int{0, 0, 0}, api.ErrFire)
	refuses(t, ring(), []int{0, 2}, api.ErrNode)
	refuses(t, api.Net{}, nil, api.ErrNode)
	alongIs(t, netOf(1, arc(0, 0, 2, 1, 1)), []int{0, 0}, []int{1}, []int{2}, []int{3})
}

// TestEmptyList is P18.2 to P18.4: of no firing there is one moment, and it is home.
func TestEmptyList(t *testing.T) {
	for _, list := range [][]int{nil, {}, make([]int, 0, 9)} {
		alongIs(t, netOf(1), list, nil)
		mostIs(t, netOf(1), list)
		homeIs(t, netOf(1), list, true)
		for _, start := range []int{0, 1, 255, 256} {
			n := netOf(2, arc(0, 1, 64, 1, start), arc(1, 1, 1, 64, 256-start))
			alongIs(t, n, list, []int{start, 256 - start})
			mostIs(t, n, list, start, 256-start)
			homeIs(t, n, list, true)
		}
	}
}

// TestNoArcs is P18.2 to P18.4: where there are no arcs, each moment has its row all the same, and every list comes home.
func TestNoArcs(t *testing.T) {
	for nodes := 1; nodes <= 32; nodes++ {
		for _, many := range []int{1, 2, 3, 100, 2048} {
			list := make([]int, many)
			for i := range list {
				list[i] = i * 7 % nodes
			}
			alongIs(t, netOf(nodes), list, make([][]int, many+1)...)
			mostIs(t, netOf(nodes), list)
			homeIs(t, netOf(nodes), list, true)
		}
		refuses(t, netOf(nodes), []int{0, nodes}, api.ErrNode)
	}
}

// TestOwnArc is P18.2 to P18.4: an arc from a node to itself is taken from, then given to; the moment in between is none, so it is neither told nor the greatest or the least.
func TestOwnArc(t *testing.T) {
	for _, rate := range []int{1, 2, 63, 64} {
		n := netOf(1, arc(0, 0, rate, rate, rate))
		alongIs(t, n, []int{0, 0, 0}, []int{rate}, []int{rate}, []int{rate}, []int{rate})
		mostIs(t, n, []int{0, 0, 0}, rate)
		homeIs(t, n, []int{0, 0, 0}, true)
		n.Arcs[0].Start--
		refuses(t, n, []int{0}, api.ErrFire)
	}
	falls := netOf(1, arc(0, 0, 1, 2, 4))
	alongIs(t, falls, []int{0, 0, 0}, []int{4}, []int{3}, []int{2}, []int{1})
	mostIs(t, falls, []int{0, 0, 0}, 4)
	homeIs(t, falls, []int{0}, false)
	refuses(t, falls, []int{0, 0, 0, 0}, api.ErrFire)
}

// TestMost is P18.3: the greatest number of each arc by itself, at the first moment, at the last one, or at one between.
func TestMost(t *testing.T) {
	n := netOf(3,
		arc(1, 0, 1, 2, 9), // falls: the start
		arc(0, 2, 3, 1, 0), // rises: the end
		arc(0, 1, 5, 2, 1), // up and down: between
		arc(2, 2, 1, 1, 7), // stays
	)
	list := []int{0, 0, 1, 1, 1, 1, 1, 0}
	alongIs(t, n, list, []int{9, 0, 1, 7}, []int{7, 3, 6, 7}, []int{5, 6, 11, 7}, []int{6, 6, 9, 7}, []int{7, 6, 7, 7}, []int{8, 6, 5, 7}, []int{9, 6, 3, 7}, []int{10, 6, 1, 7}, []int{8, 9, 6, 7})
	mostIs(t, n, list, 10, 9, 11, 7)
	mostIs(t, n, list[:6], 9, 6, 11, 7)
	mostIs(t, n, list[:2], 9, 6, 11, 7)
	mostIs(t, n, list[:1], 9, 3, 6, 7)
	mostIs(t, n, nil, 9, 0, 1, 7)
}

// TestHome is P18.4: the last moment alone counts, not whether one ahead of it was home; every arc counts; nodes that no arc changes need not fire.
func TestHome(t *testing.T) {
	both := netOf(4, arc(0, 1, 1, 1, 0), arc(2, 3, 1, 1, 0))
	for _, c := range []struct {
		list []int
		home bool
	}{
		{[]int{0}, false}, {[]int{0, 1}, true}, {[]int{0, 1, 0}, false}, {[]int{0, 1, 0, 1}, true}, {[]int{0, 0, 1}, false},
		{[]int{2}, false}, {[]int{2, 3}, true}, {[]int{0, 2, 1}, false}, {[]int{0, 2, 3}, false}, {[]int{2, 0, 1, 3}, true},
		{[]int{0, 2, 0, 3, 1}, false}, {[]int{2, 0, 2, 1, 3}, false},
	} {
		homeIs(t, both, c.list, c.home)
	}
	swap := netOf(2, arc(0, 1, 1, 1, 0), arc(1, 0, 1, 1, 1))
	homeIs(t, swap, []int{0}, false) // as many tokens in all, but elsewhere
	homeIs(t, swap, []int{0, 1}, true)
	own := netOf(2, arc(0, 0, 3, 3, 3))
	for _, list := range [][]int{{0}, {1}, {1, 1}, {0, 1, 0, 0}} {
		homeIs(t, own, list, true)
	}
	last := netOf(2)
	for range 95 {
		last.Arcs = append(last.Arcs, arc(0, 0, 1, 1, 1))
	}
	homeIs(t, last, []int{1, 0, 1}, true)
	last.Arcs = append(last.Arcs, arc(1, 0, 2, 1, 1))
	homeIs(t, last, []int{1, 0, 0}, true)
	homeIs(t, last, []int{1, 0}, false)
	homeIs(t, last, []int{0}, false)
}

// TestSideBySide is P18.2: arcs between the same nodes, either way, have their own numbers, by the arcs' order.
func TestSideBySide(t *testing.T) {
	n := netOf(2, arc(1, 0, 1, 1, 1), arc(0, 1, 1, 1, 0), arc(0, 1, 2, 1, 5), arc(1, 0, 3, 2, 2), arc(0, 1, 64, 64, 0))
	alongIs(t, n, []int{0, 1, 0, 1}, []int{1, 0, 5, 2, 0}, []int{0, 1, 7, 0, 64}, []int{1, 0, 6, 3, 0}, []int{0, 1, 8, 1, 64}, []int{1, 0, 7, 4, 0})
	mostIs(t, n, []int{0, 1, 0, 1}, 1, 1, 8, 4, 64)
	homeIs(t, n, []int{0, 1, 0, 1}, false)
	slices.Reverse(n.Arcs)
	alongIs(t, n, []int{0, 1}, []int{0, 2, 5, 0, 1}, []int{64, 0, 7, 1, 0}, []int{0, 3, 6, 0, 1})
	mostIs(t, n, []int{0, 1}, 64, 3, 7, 1, 1)
}

// TestEverySmallNet is P18.1 to P18.4: all nets of two nodes and two arcs with rates up to 2 and starts up to 2, and all lists of up to four numbers from -1 to 2, against a model.
func TestEverySmallNet(t *testing.T) {
	met, home := map[api.Errno]int{}, 0
	lists := everyList(-1, 2, 4)
	for _, n := range smallNets() {
		for _, list := range lists {
			rows, e := agrees(t, n, list)
			met[e]++
			if len(rows) > 1 && homeOf(rows) {
				home++
			}
		}
	}
	if met[api.OK] < 1000 || met[api.ErrNode] < 1000 || met[api.ErrFire] < 1000 || home < 1000 {
		t.Error("too few of a kind", met, home)
	}
}

// smallNets are all of two nodes and two arcs, with rates up to 2 and starts up to 2.
func smallNets() []api.Net {
	var arcs []api.Arc
	for i := range 48 {
		arcs = append(arcs, arc(i%2, i/2%2, 1+i/4%2, 1+i/8%2, i/16))
	}
	var all []api.Net
	for _, a := range arcs {
		for _, b := range arcs {
			all = append(all, netOf(2, a, b))
		}
	}
	return all
}

// everyList are all lists of up to so many numbers from one to another.
func everyList(from, to, most int) [][]int {
	all := [][]int{nil}
	for at := 0; len(all[at]) < most; at++ {
		for number := from; number <= to; number++ {
			all = append(all, append(slices.Clone(all[at]), number))
		}
	}
	return all
}

// TestMixed is P18.1 to P18.4: many nets and lists, some of which are wrong, against a model.
func TestMixed(t *testing.T) {
	c := chance(181)
	met, home, far := map[api.Errno]int{}, 0, 0
	for round := range 6000 {
		n, list := c.homing()
		if round%2 == 0 {
			n = c.net()
			list = c.list(n, c.below(pick(&c, 4, 20, 80)))
		}
		for range c.below(3) {
			switch c.below(4) {
			case 0, 1:
				list = c.flaw(list, n.Nodes)
			case 2:
				c.spoil(&n)
			case 3:
				list = append(slices.Clone(list), make([]int, 2040+c.below(12)-min(2040, len(list)))...)
			}
		}
		rows, e := agrees(t, n, list)
		met[e]++
		if len(rows) > 10 {
			far++
		}
		if len(rows) > 1 && homeOf(rows) {
			home++
		}
	}
	for _, e := range []api.Errno{api.OK, api.ErrNode, api.ErrMany, api.ErrRate, api.ErrStart, api.ErrLong, api.ErrFire} {
		if met[e] < 50 {
			t.Errorf("%v: %d only", e, met[e])
		}
	}
	if home < 500 || far < 500 {
		t.Error("too few of a kind", home, far)
	}
}

// TestLimits is P18.2 to P18.4 at the limits: the longest list, all nodes, all arcs, the greatest rates and starts.
func TestLimits(t *testing.T) {
	long := make([]int, 2048)
	up := netOf(1, arc(0, 0, 64, 1, 256))
	var rows [][]int
	for k := range 2049 {
		rows = append(rows, []int{256 + 63*k})
	}
	alongIs(t, up, long, rows...)
	mostIs(t, up, long, 256+63*2048)
	homeIs(t, up, long, false)
	wide, turns := netOf(32), make([]int, 2048)
	for i := range 96 {
		wide.Arcs = append(wide.Arcs, arc(i%32, (i+1)%32, 64, 64, i%32/31*256))
	}
	for i := range turns {
		turns[i] = i % 32
	}
	agrees(t, wide, turns)
	homeIs(t, wide, turns, true)
	turns[2047] = 0
	agrees(t, wide, turns)
	homeIs(t, wide, turns, false)
	turns[2047] = 1
	refuses(t, wide, turns, api.ErrFire)
	turns[2047] = 32
	refuses(t, wide, turns, api.ErrNode)
}
