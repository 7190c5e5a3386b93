package pack_test

import (
	"slices"
	"testing"

	"pianola/api"
)

// TestCheckExamples is P19.3: the chapter's examples.
func TestCheckExamples(t *testing.T) {
	round, there := []int{0, 1, 2}, []int{0, 1, 1}
	checkIs(t, ring(), planOf(2, 0, 1, 0, 2, 1, 1), round, api.OK)
	checkIs(t, ring(), planOf(1, 0, 1, 0, 2, 1, 1), round, api.ErrTotal)
	checkIs(t, ring(), planOf(2, 0, 1, 0, 0, 1, 1), round, api.ErrSize)
	checkIs(t, ring(), planOf(2, 0, 1, 0, 2), round, api.ErrArg)
	checkIs(t, pair(), planOf(3, 0, 2, 1, 2), there, api.ErrShared)
	checkIs(t, pair(), planOf(5, 3, 2, 0, 3), there, api.OK)
}

// TestManyRegions is P19.3: as many regions as arcs, whatever these and the total are.
func TestManyRegions(t *testing.T) {
	for many := range 8 {
		code := api.ErrArg
		if many == 3 {
			code = api.OK
		}
		checkIs(t, ring(), planOf(1, slices.Repeat([]int{0, 1}, many)...), []int{0, 1, 2}, code)
		if many != 3 {
			checkIs(t, ring(), planOf(many, slices.Repeat([]int{0, 0}, many)...), []int{0, 1, 2}, api.ErrArg)
			checkIs(t, ring(), planOf(2048, slices.Repeat([]int{1024, 1024}, many)...), []int{0, 1, 2}, api.ErrArg)
		}
	}
	checkIs(t, ring(), planOf(1, slices.Repeat([]int{0, 1}, 1<<16)...), []int{0, 1, 2}, api.ErrArg)
	checkIs(t, netOf(2), api.Plan{}, []int{0, 1, 0}, api.OK)
	checkIs(t, netOf(2), planOf(0, 0, 0), nil, api.ErrArg)
	checkIs(t, netOf(2), planOf(1), nil, api.ErrTotal)
	checkIs(t, netOf(2), planOf(-1), nil, api.ErrTotal)
}

// TestRegionSpans is P19.3: Base and Size at both ends of what they may be, and beyond, of each region.
func TestRegionSpans(t *testing.T) {
	for at := range 3 {
		for _, number := range []int{least, least + 1, -1 << 32, -1024, -1, 1025, 1026, 2048, 1 << 32, 1<<32 + 1, greatest - 1, greatest} {
			for _, other := range []int{least, -1, 0, 1, 1024, 1025, greatest} {
				low, wide := planOf(2, 0, 1, 0, 1, 0, 1), planOf(2, 0, 1, 0, 1, 0, 1)
				low.Regions[at] = api.Region{Base: number, Size: other}
				wide.Regions[at] = api.Region{Base: other, Size: number}
				for _, total := range []int{least, 0, 1, 1024, greatest, number, number + other} {
					low.Total, wide.Total = total, total
					checkIs(t, ring(), low, []int{0, 1, 2}, api.ErrArg)
					checkIs(t, ring(), wide, []int{0, 1, 2}, api.ErrArg)
				}
			}
		}
		for _, size := range []int{1, 2, 1023, 1024} {
			for base := range 1025 - size {
				p := planOf(base+size, 0, 1, 0, 1, 0, 1)
				p.Regions[at] = api.Region{Base: base, Size: size}
				checkIs(t, ring(), p, []int{0, 1, 2}, api.OK)
			}
		}
	}
}

// TestSizes is P19.3: each region has its arc's peak at least, be it reached at the start, at the end or between.
func TestSizes(t *testing.T) {
	n := netOf(2, arc(0, 1, 5, 5, 0), arc(1, 0, 7, 7, 14), arc(0, 0, 1, 1, 9), arc(0, 1, 1, 1, 0), arc(1, 1, 1, 1, 3))
	peaks, list := []int{10, 14, 9, 2, 3}, []int{0, 0, 1, 1}
	for at, peak := range peaks {
		for size := range 30 {
			p := api.Plan{}
			for i, other := range peaks {
				p.Regions = append(p.Regions, api.Region{Base: 40 * i, Size: other})
			}
			p.Regions[at].Size = size
			p.Total = endOf(p.Regions)
			code := api.OK
			if size < peak {
				code = api.ErrSize
			}
			checkIs(t, n, p, list, code)
		}
	}
	idle := netOf(2, arc(0, 1, 1, 1, 0))
	checkIs(t, idle, planOf(0, 0, 0), nil, api.OK)
	checkIs(t, idle, planOf(9, 9, 0), nil, api.OK)
	checkIs(t, idle, planOf(0, 0, 0), []int{0, 1}, api.ErrSize)
}

// TestTotals is P19.3: the total is where the last region ends, be it empty or greater than the peak; not where the cells that are needed end, nor their sum.
func TestTotals(t *testing.T) {
	n, list := wished([]int{0, 2, 3}, [2]int{1, 2})
	for _, c := range []api.Plan{
		planOf(5, 0, 0, 0, 2, 2, 3), planOf(5, 5, 0, 0, 2, 2, 3), planOf(6, 6, 0, 0, 2, 2, 3), planOf(1024, 1024, 0, 0, 2, 2, 3),
		planOf(9, 0, 0, 0, 2, 2, 7), planOf(9, 7, 2, 3, 2, 0, 3), planOf(8, 0, 0, 1, 4, 5, 3), planOf(1024, 0, 1024, 0, 2, 2, 3), planOf(1024, 0, 0, 1000, 24, 0, 1000),
	} {
		checkIs(t, n, c, list, api.OK)
		right := c.Total
		for _, wrong := range []int{least, -1, 0, 1, right - 1, right + 1, right + 1024, 1024, 1025, greatest} {
			c.Total = wrong
			code := api.ErrTotal
			if wrong == right {
				code = api.OK
			}
			checkIs(t, n, c, list, code)
		}
	}
}

// TestTotalTooBig is P19.3: a total above MaxMem, be it by an empty region's Base or by what lies in a region.
func TestTotalTooBig(t *testing.T) {
	n, list := wished([]int{0, 2, 3}, [2]int{1, 2})
	for _, c := range []api.Plan{
		planOf(1025, 1, 1024, 0, 2, 2, 3), planOf(1025, 1024, 1, 0, 2, 2, 3), planOf(2048, 1024, 1024, 0, 2, 2, 3), planOf(1026, 0, 0, 1024, 2, 0, 3), planOf(1025, 0, 0, 1023, 2, 1000, 3),
	} {
		checkIs(t, n, c, list, api.ErrTooBig)
		for _, wrong := range []int{0, 1023, 1024, c.Total - 1, c.Total + 1} {
			if wrong != c.Total {
				c := api.Plan{Regions: c.Regions, Total: wrong}
				checkIs(t, n, c, list, api.ErrTotal)
			}
		}
	}
}

// TestShared is P19.3: two regions of arcs that clash, at every distance; regions of arcs that do not clash may lie anywhere.
func TestShared(t *testing.T) {
	n, list := wished([]int{2, 3, 1}, [2]int{0, 1})
	for base := range 12 {
		for size := 2; size < 7; size++ {
			for third := range 14 {
				p := planOf(0, 5, 3, base, max(3, size), third, 1)
				p.Total = endOf(p.Regions)
				code := api.OK
				if overlap(p.Regions[0], p.Regions[1]) {
					code = api.ErrShared
				}
				checkIs(t, n, p, list, code)
			}
		}
	}
	for _, c := range []struct {
		base, size int
		code       api.Errno
	}{{0, 5, api.OK}, {0, 6, api.ErrShared}, {8, 3, api.OK}, {7, 3, api.ErrShared}, {5, 3, api.ErrShared}, {0, 100, api.ErrShared}, {2, 3, api.OK}, {3, 3, api.ErrShared}} {
		p := planOf(0, 5, 3, c.base, c.size, 0, 1)
		p.Total = endOf(p.Regions)
		checkIs(t, n, p, list, c.code)
	}
	checkIs(t, n, planOf(5, 0, 3, 2, 3, 0, 1), list, api.ErrShared) // the peaks' cells alone would not meet
}

// TestEachPairShared is P19.3: each pair of arcs that clashes counts, and no other one.
func TestEachPairShared(t *testing.T) {
	for _, clash := range everyPair(7) {
		n, list := wished(slices.Repeat([]int{1}, 7), clash)
		for _, meet := range everyPair(7) {
			p := planOf(7, 0, 1, 1, 1, 2, 1, 3, 1, 4, 1, 5, 1, 6, 1)
			p.Regions[meet[0]].Base = meet[1]
			p.Total = endOf(p.Regions)
			code := api.OK
			if clash == meet {
				code = api.ErrShared
			}
			checkIs(t, n, p, list, code)
		}
	}
}

// TestFirstError is P19.3: where several things are wrong with a plan, the one that is named first counts; of the regions the earlier one.
func TestFirstError(t *testing.T) {
	there := []int{0, 1, 1}
	checkIs(t, pair(), planOf(9, 0, 0, -1, 2), there, api.ErrSize)
	checkIs(t, pair(), planOf(9, -1, 2, 0, 0), there, api.ErrArg)
	checkIs(t, pair(), planOf(9, 0, 2, 0, -1), there, api.ErrArg)
	checkIs(t, pair(), planOf(9, 1025, 0, 0, 2), there, api.ErrArg)
	checkIs(t, pair(), planOf(9, 0, 0, 0, 1), there, api.ErrSize)
	checkIs(t, pair(), planOf(9, 0, 1, 0, 2, -1, -1), there, api.ErrArg)
	checkIs(t, pair(), planOf(9, 0, 2, 0, 1), there, api.ErrSize)
	checkIs(t, pair(), planOf(9, 0, 2, 0, 2), there, api.ErrTotal)
	checkIs(t, pair(), planOf(1026, 1024, 2, 1024, 2), there, api.ErrTooBig)
	checkIs(t, pair(), planOf(1025, 1024, 2, 1024, 2), there, api.ErrTotal)
	checkIs(t, pair(), planOf(2, 0, 2, 0, 2), there, api.ErrShared)
}

// TestEveryPlan is P19.3: all plans of small numbers for two arcs that clash, and for two that do not, against a model.
func TestEveryPlan(t *testing.T) {
	met := map[api.Errno]int{}
	for _, pairs := range [][][2]int{nil, {{0, 1}}} {
		n, list := wished([]int{2, 1}, pairs...)
		m, _ := modelOf(n, list)
		for code := range 5 * 5 * 5 * 5 * 7 {
			p := planOf(code/625, code%5-1, code/5%5-1, code/25%5-1, code/125%5-1)
			want := m.check(p)
			checkIs(t, n, p, list, want)
			met[want]++
		}
	}
	for _, e := range []api.Errno{api.OK, api.ErrArg, api.ErrSize, api.ErrTotal, api.ErrShared} {
		if met[e] < 10 {
			t.Errorf("%v: %d only", e, met[e])
		}
	}
}

// TestMixedChecks is P19.3: plans that Place has made, changed here and there, against a model.
func TestMixedChecks(t *testing.T) {
	c := chance(193)
	met := map[api.Errno]int{}
	for round := range 4000 {
		n, list := c.homing()
		if round%2 == 0 {
			n, list = c.wish()
		}
		m, e := modelOf(n, list)
		if e != api.OK {
			t.Fatal(n, list, e)
		}
		plan := m.plan()
		for range 8 {
			p := c.change(plan)
			want := m.check(p)
			checkIs(t, n, p, list, want)
			met[want]++
		}
	}
	for _, e := range []api.Errno{api.OK, api.ErrArg, api.ErrSize, api.ErrTotal, api.ErrTooBig, api.ErrShared} {
		if met[e] < 300 {
			t.Errorf("%v: %d only", e, met[e])
		}
	}
}
