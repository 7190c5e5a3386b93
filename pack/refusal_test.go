package pack_test

import (
	"slices"
	"testing"

	"pianola/api"
	"pianola/peaks"
)

// refuses fails, unless Clash, Place and Check, whatever the plan, answer the error that peaks.Along does, which is this one.
func refuses(t *testing.T, n api.Net, list []int, code api.Errno) {
	t.Helper()
	if _, e := peaks.Along(n, list...); e != code {
		t.Fatalf("Along(%v, %v): %v, not %v", n, head(list), e, code)
	}
	clashRefuses(t, n, list, code)
	placeRefuses(t, n, list, code)
	fits := api.Plan{Regions: make([]api.Region, len(n.Arcs))}
	for i := range fits.Regions {
		fits.Regions[i] = api.Region{Base: i * 8, Size: 8}
		fits.Total = i*8 + 8
	}
	for _, p := range []api.Plan{{}, fits, planOf(0, 0, 0, 0, 0), planOf(-1, -1, -1), planOf(5000, 1024, 1024, 1024, 1024, 5, 5)} {
		checkIs(t, n, p, list, code)
	}
}

// wrong are nets of each kind that net.Check refuses.
func wrong() map[api.Errno][]api.Net {
	spoilt := func(set func(a *api.Arc)) api.Net {
		n := pair()
		n.Arcs = append(n.Arcs, arc(0, 1, 1, 1, 0))
		set(&n.Arcs[2])
		return n
	}
	return map[api.Errno][]api.Net{
		api.ErrNode: {
			{}, {Nodes: -1}, {Nodes: least}, {Nodes: 33}, {Nodes: greatest, Arcs: pair().Arcs}, {Arcs: pair().Arcs}, {Nodes: 1, Arcs: pair().Arcs},
			spoilt(func(a *api.Arc) { a.From = -1 }), spoilt(func(a *api.Arc) { a.From = 2 }), spoilt(func(a *api.Arc) { a.From = greatest }),
			spoilt(func(a *api.Arc) { a.To = -1 }), spoilt(func(a *api.Arc) { a.To = 2 }), spoilt(func(a *api.Arc) { a.To = least }),
		},
		api.ErrMany: {
			{Nodes: 2, Arcs: append(slices.Repeat(pair().Arcs, 48), arc(0, 1, 1, 1, 0))}, {Nodes: 2, Arcs: make([]api.Arc, 97)},
		},
		api.ErrRate: {
			spoilt(func(a *api.Arc) { a.Give = 0 }), spoilt(func(a *api.Arc) { a.Give = 65 }), spoilt(func(a *api.Arc) { a.Give = least }),
			spoilt(func(a *api.Arc) { a.Take = 0 }), spoilt(func(a *api.Arc) { a.Take = 65 }), spoilt(func(a *api.Arc) { a.Take = greatest }),
		},
		api.ErrStart: {
			spoilt(func(a *api.Arc) { a.Start = -1 }), spoilt(func(a *api.Arc) { a.Start = 257 }), spoilt(func(a *api.Arc) { a.Start = greatest }),
		},
	}
}

// TestRefusedNets is P19.1 to P19.3: what net.Check refuses, ahead of whatever is wrong with the list or the plan.
func TestRefusedNets(t *testing.T) {
	for code, nets := range wrong() {
		for _, n := range nets {
			for _, list := range [][]int{nil, {}, {0}, {0, 1, 1}, {1}, {-1}, {2}, {greatest, least}, make([]int, 2048), make([]int, 2049), slices.Repeat([]int{-1}, 100000)} {
				refuses(t, n, list, code)
			}
		}
	}
}

// TestTooLong is P19.1 to P19.3: up to MaxFirings numbers, and no more, ahead of whatever these are.
func TestTooLong(t *testing.T) {
	long := slices.Repeat([]int{0, 1}, 1024)
	n := netOf(2, arc(0, 1, 1, 1, 0), arc(0, 1, 2, 2, 1))
	if _, e := agrees(t, n, long); e != api.OK {
		t.Fatal(e)
	}
	clashIs(t, n, long, [2]int{0, 1})
	placeIs(t, n, long, planOf(4, 3, 1, 0, 3))
	checkIs(t, n, planOf(4, 0, 1, 1, 3), long, api.OK)
	refuses(t, n, append(long, 0), api.ErrLong)
	refuses(t, n, append(long, 0, 1), api.ErrLong)
	for _, many := range []int{2049, 4096, 1 << 20} {
		for _, node := range []int{0, 1, 2, -1, least, greatest} {
			refuses(t, n, slices.Repeat([]int{node}, many), api.ErrLong)
		}
	}
}

// TestNoNode is P19.1 to P19.3: a number below 0 or past the last node, at each place of a list.
func TestNoNode(t *testing.T) {
	for _, none := range []int{least, -1 << 32, -1, 2, 3, 32, 1 << 32, 1<<32 + 1, greatest} {
		for at := range 4 {
			refuses(t, pair(), slices.Insert([]int{0, 1, 1}, at, none), api.ErrNode)
		}
		refuses(t, pair(), []int{1, none}, api.ErrFire)
		refuses(t, pair(), []int{none, 1}, api.ErrNode)
	}
}

// TestMayNotFire is P19.1 to P19.3: a node that lacks a token, ahead of whether the list comes home.
func TestMayNotFire(t *testing.T) {
	for _, list := range [][]int{{1}, {0, 0}, {0, 1, 1, 1}, {0, 1, 0}, {1, 0, 1}, {0, 1, 1, 0, 0}} {
		refuses(t, pair(), list, api.ErrFire)
	}
	for _, list := range [][]int{{1}, {2}, {0, 0}, {0, 2}, {1, 2, 0}, {0, 1, 2, 0, 0}} {
		refuses(t, ring(), list, api.ErrFire)
	}
}

// TestClashNeedsNoHome is P19.1: Clash alone takes a list that does not come home, and one whose plan is too big.
func TestClashNeedsNoHome(t *testing.T) {
	n := netOf(2, arc(0, 1, 64, 1, 256), arc(0, 1, 64, 1, 0))
	list := make([]int, 2048)
	clashIs(t, n, list, [2]int{0, 1})
	placeRefuses(t, n, list, api.ErrHome)
	full := netOf(1, slices.Repeat([]api.Arc{arc(0, 0, 1, 1, 256)}, 5)...)
	clashIs(t, full, []int{0}, everyPair(5)...)
	placeRefuses(t, full, []int{0}, api.ErrTooBig)
}
