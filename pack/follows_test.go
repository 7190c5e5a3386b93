package pack_test

import (
	"slices"
	"testing"

	"pianola/api"
	"pianola/pack"
	"pianola/peaks"
)

// disjoint fails, unless at each moment the regions of the arcs that have tokens share no cell, each has room for these, and all together fit into the total.
func disjoint(t *testing.T, n api.Net, list []int, p api.Plan) {
	t.Helper()
	rows, e := peaks.Along(n, list...)
	if e != api.OK {
		t.Fatal(e)
	}
	for _, row := range rows {
		memory, sum := make([]int, p.Total), 0
		for i, has := range row {
			r := p.Regions[i]
			if has > r.Size {
				t.Fatalf("%v, %v, %v: arc %d has %d", n, list, p, i, has)
			}
			for cell := r.Base; has > 0 && cell < r.Base+r.Size; cell++ {
				memory[cell]++
				sum++
			}
		}
		if slices.ContainsFunc(memory, func(many int) bool { return many > 1 }) || sum > p.Total {
			t.Fatalf("%v, %v, %v: two share a cell at %v", n, list, p, row)
		}
	}
}

// rests fails, unless each Base is 0 or the end of a region of an arc that clashes with this one.
func rests(t *testing.T, n api.Net, list []int, p api.Plan) {
	t.Helper()
	pairs := clashing(t, n, list)
	for i, r := range p.Regions {
		sound := r.Base == 0
		for k, other := range p.Regions {
			clash := slices.Contains(pairs, [2]int{i, k}) || slices.Contains(pairs, [2]int{k, i})
			sound = sound || clash && other.Base+other.Size == r.Base
		}
		if !sound {
			t.Fatalf("%v, %v, %v: region %d lies on none", n, list, p, i)
		}
	}
}

// between fails, unless the total is from the greatest peak to the sum of all, and the one or the other where no two clash, or all do that have a peak above 0. It tells which of the two is the case: 0, 1, or 2 for neither.
func between(t *testing.T, n api.Net, list []int, p api.Plan) int {
	t.Helper()
	most, _ := peaks.Most(n, list...)
	pairs := clashing(t, n, list)
	top, sum, full := 0, 0, 0
	for _, peak := range most {
		top, sum = max(top, peak), sum+peak
		full += min(1, peak)
	}
	if p.Total < top || p.Total > sum || len(pairs) == 0 && p.Total != top || len(pairs) == full*(full-1)/2 && p.Total != sum {
		t.Fatalf("%v, %v, %v: peaks %v, pairs %v", n, list, p, most, pairs)
	}
	switch len(pairs) {
	case 0:
		return 0
	case full * (full - 1) / 2:
		return 1
	}
	return 2
}

// TestPlans is P19.4: what follows of plans that Place makes.
func TestPlans(t *testing.T) {
	c := chance(194)
	var met [3]int
	for round := range 4000 {
		n, list := c.homing()
		if round%2 == 0 {
			n, list = c.wish()
		}
		p, e := pack.Place(n, list...)
		if e == api.ErrTooBig {
			continue
		}
		checkIs(t, n, p, list, api.OK)
		disjoint(t, n, list, p)
		rests(t, n, list, p)
		met[between(t, n, list, p)]++
	}
	if min(met[0], met[1], met[2]) < 200 {
		t.Error("too few of a kind", met)
	}
}

// TestSoundPlans is P19.4: in whatever plan Check passes, no two arcs have tokens at a moment whose regions share a cell.
func TestSoundPlans(t *testing.T) {
	c := chance(195)
	met := 0
	for range 1500 {
		n, list := c.wish()
		p, e := pack.Place(n, list...)
		if e != api.OK {
			continue
		}
		for range 6 {
			if other := c.change(p); !samePlan(other, p) && pack.Check(n, other, list...) == api.OK {
				disjoint(t, n, list, other)
				met++
			}
		}
	}
	if met < 800 {
		t.Errorf("%d only", met)
	}
}

// TestMoved is P19.5: a plan that passes still does, if all Bases and the total are as much greater, up to 1024 and no further.
func TestMoved(t *testing.T) {
	c := chance(196)
	met := 0
	for range 1500 {
		n, list := c.homing()
		p, e := pack.Place(n, list...)
		if e != api.OK || len(p.Regions) == 0 {
			continue
		}
		room := 1024 - p.Total
		for _, by := range []int{0, 1, c.below(room + 1), room, room + 1} {
			moved := api.Plan{Total: p.Total + by}
			for _, r := range p.Regions {
				moved.Regions = append(moved.Regions, api.Region{Base: r.Base + by, Size: r.Size})
			}
			want := api.OK
			if by > room {
				want = api.ErrTooBig
				if slices.ContainsFunc(moved.Regions, func(r api.Region) bool { return r.Base > 1024 }) {
					want = api.ErrArg
				}
			}
			checkIs(t, n, moved, list, want)
			met++
		}
	}
	if met < 4000 {
		t.Errorf("%d only", met)
	}
	checkIs(t, netOf(1), planOf(1), nil, api.ErrTotal) // without arcs there is nothing that could be moved
}

// TestTwice is P19.2: where a list comes home, the list twice asks for the same plan.
func TestTwice(t *testing.T) {
	c := chance(197)
	for range 500 {
		n, list := c.homing()
		once, e := pack.Place(n, list...)
		twice, f := pack.Place(n, slices.Repeat(list, 2)...)
		if e != f || !samePlan(once, twice) || !slices.Equal(clashing(t, n, list), clashing(t, n, slices.Repeat(list, 2))) {
			t.Fatalf("%v, %v: %v %v, %v %v", n, list, once, e, twice, f)
		}
	}
}
