package pack_test

import (
	"slices"
	"testing"

	"pianola/api"
)

// ring and pair are the nets of the chapter's examples.
func ring() api.Net { return netOf(3, arc(0, 1, 1, 1, 0), arc(1, 2, 1, 1, 0), arc(2, 0, 1, 1, 1)) }

func pair() api.Net { return netOf(2, arc(0, 1, 2, 1, 0), arc(1, 0, 1, 2, 2)) }

// TestClashExamples is P19.1: the chapter's examples.
func TestClashExamples(t *testing.T) {
	clashIs(t, ring(), []int{0, 1, 2})
	clashIs(t, ring(), nil)
	clashIs(t, pair(), []int{0, 1, 1}, [2]int{0, 1})
	clashRefuses(t, pair(), []int{1}, api.ErrFire)
}

// TestWhichMoment is P19.1: the start counts, the last moment, and each one between; a list need not come home.
func TestWhichMoment(t *testing.T) {
	clashIs(t, pair(), nil)
	clashIs(t, pair(), []int{0})
	clashIs(t, pair(), []int{0, 1}, [2]int{0, 1})
	clashIs(t, pair(), []int{0, 1, 1, 0}, [2]int{0, 1})
	start := netOf(2, arc(0, 1, 1, 1, 1), arc(0, 1, 1, 1, 1))
	for _, list := range [][]int{nil, {}, {1}, {1, 0}, {0}} {
		clashIs(t, start, list, [2]int{0, 1})
	}
	both := netOf(4, arc(0, 1, 1, 1, 0), arc(2, 3, 1, 1, 0))
	for _, list := range [][]int{{}, {0}, {2}, {0, 0, 0}, {0, 1, 2}, {0, 1, 2, 3}, {2, 3, 0, 1}, {0, 0, 1, 1, 2, 2, 3, 3}} {
		clashIs(t, both, list)
	}
	for _, list := range [][]int{{0, 2}, {2, 0}, {0, 2, 1, 3}, {0, 2, 3, 1}, {0, 1, 0, 2}, {0, 0, 1, 2}, {0, 1, 2, 3, 2, 0, 1, 3}} {
		clashIs(t, both, list, [2]int{0, 1})
	}
}

// TestWithinFiring is P19.1: a firing takes and gives between two moments, so an arc that it empties and one that it fills need not clash, be it one from a node to itself or not.
func TestWithinFiring(t *testing.T) {
	clashIs(t, netOf(2, arc(1, 0, 1, 1, 1), arc(0, 1, 1, 1, 0)), []int{0, 1})
	clashIs(t, netOf(2, arc(0, 0, 1, 1, 1), arc(0, 1, 1, 1, 0)), []int{0, 1}, [2]int{0, 1})
	clashIs(t, netOf(2, arc(1, 0, 1, 1, 2), arc(0, 1, 1, 1, 0)), []int{0, 1}, [2]int{0, 1})
	clashIs(t, netOf(1, arc(0, 0, 64, 64, 64)), []int{0, 0, 0})
}

// TestPairsRise is P19.1: each pair once, the lesser number first, whichever of two arcs gets its tokens first and whenever they clash.
func TestPairsRise(t *testing.T) {
	for many := 1; many <= 16; many++ {
		peaks, all := slices.Repeat([]int{2}, many), everyPair(many)
		n, list := wished(peaks, all...)
		clashIs(t, n, list, all...)
		back := slices.Clone(all)
		slices.Reverse(back)
		_, list = wished(peaks, back...)
		clashIs(t, n, list, all...)
	}
	want := [][2]int{{0, 1}, {0, 3}, {1, 4}, {2, 4}}
	for _, some := range [][][2]int{{{2, 4}, {0, 3}, {1, 4}, {0, 1}}, {{4, 2}, {3, 0}, {4, 1}, {1, 0}}, {{1, 0}, {4, 1}, {0, 1}, {0, 3}, {4, 2}}} {
		n, list := wished([]int{1, 1, 1, 1, 1}, some...)
		clashIs(t, n, list, want...)
		clashIs(t, n, append(list, list...), want...)
	}
}

// TestAllArcs is P19.1 at the limits: as many arcs as there may be, all of which clash, or none of which do, over the longest list.
func TestAllArcs(t *testing.T) {
	full := netOf(32)
	for i := range 96 {
		full.Arcs = append(full.Arcs, arc(i%32, i*5%32, 1, 1, 1))
	}
	clashIs(t, full, nil, everyPair(96)...)
	bare := netOf(32)
	for i := range 96 {
		bare.Arcs = append(bare.Arcs, arc(1+i%31, 1+i*5%31, 1, 64, 0))
	}
	bare.Arcs[95] = arc(0, 31, 64, 1, 256)
	clashIs(t, bare, make([]int, 2048))
	bare.Arcs[7] = arc(0, 30, 1, 1, 0)
	clashIs(t, bare, make([]int, 2048), [2]int{7, 95})
	clashIs(t, netOf(1), make([]int, 2048))
	clashIs(t, netOf(1), nil)
}

// TestLastMoment is P19.1: two arcs that have tokens together behind the last firing of the longest list alone.
func TestLastMoment(t *testing.T) {
	n, list := netOf(3, arc(0, 1, 1, 1, 0), arc(2, 1, 1, 1, 0)), make([]int, 2048)
	clashIs(t, n, list)
	list[2047] = 2
	clashIs(t, n, list, [2]int{0, 1})
	clashIs(t, n, list[:2047])
}
