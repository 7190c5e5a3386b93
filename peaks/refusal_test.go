package peaks_test

import (
	"slices"
	"testing"

	"pianola/api"
	"pianola/net"
)

// wrong are nets of each kind that net.Check refuses.
func wrong() map[api.Errno][]api.Net {
	spoilt := func(set func(a *api.Arc)) api.Net {
		n := ring()
		n.Arcs = append(n.Arcs, arc(0, 1, 1, 1, 0))
		set(&n.Arcs[2])
		return n
	}
	return map[api.Errno][]api.Net{
		api.ErrNode: {
			{}, {Nodes: -1}, {Nodes: least}, {Nodes: 33}, {Nodes: greatest, Arcs: ring().Arcs}, {Arcs: ring().Arcs}, {Nodes: 1, Arcs: ring().Arcs},
			spoilt(func(a *api.Arc) { a.From = -1 }), spoilt(func(a *api.Arc) { a.From = 2 }), spoilt(func(a *api.Arc) { a.From = greatest }),
			spoilt(func(a *api.Arc) { a.To = -1 }), spoilt(func(a *api.Arc) { a.To = 2 }), spoilt(func(a *api.Arc) { a.To = least }),
		},
		api.ErrMany: {
			{Nodes: 2, Arcs: append(slices.Repeat(ring().Arcs, 48), arc(0, 1, 1, 1, 0))}, {Nodes: 2, Arcs: make([]api.Arc, 97)},
		},
		api.ErrRate: {
			spoilt(func(a *api.Arc) { a.Give = 0 }), spoilt(func(a *api.Arc) { a.Give = 65 }), spoilt(func(a *api.Arc) { a.Give = least }),
			spoilt(func(a *api.Arc) { a.Take = 0 }), spoilt(func(a *api.Arc) { a.Take = 65 }), spoilt(func(a *api.Arc) { a.Take = greatest }),
		},
		api.ErrStart: {
			spoilt(func(a *api.Arc) { a.Start = -1 }), spoilt(func(a *api.Arc) { a.Start = 257 }), spoilt(func(a *api.Arc) { a.Start = greatest }),
		},
	}
}

// TestRefusedNets is P18.1: each thing for which net.Check refuses a net, ahead of whatever is wrong with the list, and where nothing is.
func TestRefusedNets(t *testing.T) {
	for code, nets := range wrong() {
		for _, n := range nets {
			if e := net.Check(n); e != code {
				t.Fatalf("%v: %v", n, e)
			}
			for _, list := range [][]int{nil, {}, {0}, {0, 0, 1}, {1}, {-1}, {2}, {0, 2}, {greatest, least}, make([]int, 2048), make([]int, 2049), slices.Repeat([]int{-1}, 100000)} {
				refuses(t, n, list, code)
			}
		}
	}
}

// TestTooLong is P18.1: up to MaxFirings numbers, and no more, ahead of whatever these are.
func TestTooLong(t *testing.T) {
	free := netOf(3, arc(0, 1, 1, 1, 0))
	for _, many := range []int{2046, 2047, 2048} {
		if _, e := agrees(t, free, make([]int, many)); e != api.OK {
			t.Fatalf("%d: %v", many, e)
		}
	}
	for _, many := range []int{2049, 2050, 4096, 65536, 1 << 20} {
		for _, node := range []int{0, 1, 2, 3, -1, least, greatest} {
			refuses(t, free, slices.Repeat([]int{node}, many), api.ErrLong)
		}
	}
	for _, node := range []int{3, -1} {
		refuses(t, free, slices.Repeat([]int{node}, 2048), api.ErrNode)
		refuses(t, free, append(make([]int, 2047), node), api.ErrNode)
	}
	refuses(t, free, slices.Repeat([]int{1}, 2048), api.ErrFire)
}

// TestNoNode is P18.1: a number below 0 or past the last node, at each place of a list that could fire.
func TestNoNode(t *testing.T) {
	list := []int{0, 0, 1, 0, 1}
	for _, none := range []int{least, least + 1, -1 << 32, -2, -1, 2, 3, 32, 33, 1 << 32, 1<<32 + 1, greatest} {
		for at := range len(list) + 1 {
			refuses(t, ring(), slices.Insert(slices.Clone(list), at, none), api.ErrNode)
		}
	}
	for nodes := 1; nodes <= 32; nodes++ {
		for node := -2; node < 36; node++ {
			code := api.ErrNode
			if node >= 0 && node < nodes {
				code = api.OK
			}
			if _, e := agrees(t, netOf(nodes), []int{node}); e != code {
				t.Fatalf("%d nodes, %d: %v", nodes, node, e)
			}
		}
	}
}

// TestMayNotFire is P18.1: a node that lacks a token on one of its in-arcs, whichever, at whichever moment.
func TestMayNotFire(t *testing.T) {
	for at := range 5 {
		for _, take := range []int{1, 2, 64} {
			n := netOf(2)
			for range 5 {
				n.Arcs = append(n.Arcs, arc(0, 1, 1, take, take))
			}
			homeIs(t, n, []int{1}, false)
			n.Arcs[at].Start--
			refuses(t, n, []int{1}, api.ErrFire)
			alongIs(t, n, []int{0, 1}, rowOf(n, nil), rowOf(n, []int{0}), rowOf(n, []int{0, 1}))
		}
	}
	chain := netOf(3, arc(0, 1, 1, 1, 0), arc(1, 2, 1, 1, 0))
	for _, list := range [][]int{{1}, {2}, {0, 2}, {0, 1, 1}, {0, 1, 2, 2}, {0, 1, 2, 1}, {0, 0, 1, 2, 2}} {
		refuses(t, chain, list, api.ErrFire)
	}
	if _, e := agrees(t, chain, []int{0, 0, 1, 2, 1, 0, 2, 1, 2}); e != api.OK {
		t.Error(e)
	}
}

// TestFirstOne is P18.1: firing by firing, so that the one of two errors counts that stands ahead in the list.
func TestFirstOne(t *testing.T) {
	for _, none := range []int{least, -1, 2, greatest} {
		refuses(t, ring(), []int{1, none}, api.ErrFire)
		refuses(t, ring(), []int{none, 1}, api.ErrNode)
		refuses(t, ring(), []int{0, 1, none}, api.ErrFire)
		refuses(t, ring(), []int{0, none, 1}, api.ErrNode)
		refuses(t, ring(), []int{0, 0, 0, none, none}, api.ErrFire)
		refuses(t, ring(), []int{0, 0, none, 0, 0}, api.ErrNode)
	}
	n := netOf(1, arc(0, 0, 1, 1, 0))
	refuses(t, n, []int{0, 1}, api.ErrFire)
	refuses(t, n, []int{1, 0}, api.ErrNode)
	refuses(t, n, make([]int, 2048), api.ErrFire)
}
