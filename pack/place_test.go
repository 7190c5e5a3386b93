package pack_test

import (
	"slices"
	"testing"

	"pianola/api"
	"pianola/balance"
	"pianola/net"
	"pianola/simul"
	"pianola/source"
)

// TestPlaceExamples is P19.2: the chapter's examples.
func TestPlaceExamples(t *testing.T) {
	placeIs(t, ring(), []int{0, 1, 2}, planOf(1, 0, 1, 0, 1, 0, 1))
	placeRefuses(t, ring(), []int{0, 1}, api.ErrHome)
	placeIs(t, pair(), []int{0, 1, 1}, planOf(4, 0, 2, 2, 2))
}

// TestTexts is P19.2: the plans that the document tells of its texts.
func TestTexts(t *testing.T) {
	for text, want := range map[string]api.Plan{
		"graph g { actor a = up 2; actor b = down 3; edge a.0 -> b.0; in x -> a.0; out b.0 -> y; }":                                   planOf(4, 0, 4),
		"graph h { actor a = tick 1 1; actor b = drop 2; edge a.0 -> b.0; }":                                                          planOf(2, 0, 2),
		"graph n { actor a = up 4; actor b = down 2; actor c = sum; edge a.0 -> b.0; edge b.0 -> c.0; in x -> a.0; out c.0 -> y; }":   planOf(5, 0, 4, 4, 1),
		"graph c { actor a = add 2; actor c = copy 2; edge a.0 -> c.0; edge c.0 -> a.0 with 10; in x -> a.1; out c.1 -> y; }":         planOf(1, 0, 1, 0, 1),
		"graph q { actor a = quot; in n -> a.0; in d -> a.1; out a.0 -> y; }":                                                         planOf(0),
		"graph w { actor a = sum; actor b = sum; edge a.0 -> b.0 with 1 2 3; edge b.0 -> a.0; }":                                      planOf(4, 0, 3, 3, 1),
		"graph l { actor a = sum; actor b = sum; edge a.0 -> a.0 with 7; edge b.0 -> b.0 with 7 8; }":                                 planOf(3, 2, 1, 0, 2),
		"graph u { actor a = up 8; actor b = up 8; actor c = down 64; edge a.0 -> b.0; edge b.0 -> c.0; in x -> a.0; out c.0 -> y; }": planOf(72, 64, 8, 0, 64),
	} {
		g, err := source.Parse(text)
		if err != nil {
			t.Fatal(text, err)
		}
		n, _ := net.Of(g)
		b, _ := balance.Solve(n)
		p, e := simul.Run(n, b.Reps)
		if e != api.OK || len(p.List) == 0 {
			t.Fatal(text, e, p)
		}
		placeIs(t, n, p.List, want)
	}
}

// TestNotHome is P19.2 and P19.3: a list that does not end as it began has no plan, whether its regions would fit or not.
func TestNotHome(t *testing.T) {
	high := netOf(2, arc(0, 1, 64, 64, 0), arc(0, 0, 1, 1, 1))
	for _, many := range []int{1, 2, 16, 17, 2048} {
		list := make([]int, many)
		placeRefuses(t, high, list, api.ErrHome)
		for _, p := range []api.Plan{{}, planOf(many*64+1, 0, many*64, many*64, 1), planOf(0, -1, -1), planOf(7, 0, 1, 0, 1)} {
			checkIs(t, high, p, list, api.ErrHome)
		}
	}
	for _, list := range [][]int{{0}, {0, 1}, {0, 1, 2, 0}, {0, 1, 2, 0, 1}} {
		placeRefuses(t, ring(), list, api.ErrHome)
		checkIs(t, ring(), planOf(1, 0, 1, 0, 1, 0, 1), list, api.ErrHome)
	}
	placeIs(t, ring(), []int{0, 1, 2, 0, 1, 2}, planOf(1, 0, 1, 0, 1, 0, 1))
}

// TestEmptyList is P19.2: of no firing, the arcs that have tokens at the start clash, and have them for good.
func TestEmptyList(t *testing.T) {
	for _, list := range [][]int{nil, {}, make([]int, 0, 9)} {
		placeIs(t, netOf(1), list, planOf(0))
		placeIs(t, ring(), list, planOf(1, 0, 0, 0, 0, 0, 1))
		placeIs(t, netOf(1, arc(0, 0, 1, 1, 3), arc(0, 0, 1, 1, 0), arc(0, 0, 1, 1, 5), arc(0, 0, 1, 1, 3)), list, planOf(11, 5, 3, 0, 0, 0, 5, 8, 3))
	}
	placeIs(t, netOf(2), []int{0, 0, 1}, planOf(0))
}

// TestTurns is P19.2: those of greater peaks first, those of the same peak by rising numbers.
func TestTurns(t *testing.T) {
	n, list := wished([]int{1, 3, 2, 3, 1}, everyPair(5)...)
	placeIs(t, n, list, planOf(10, 8, 1, 0, 3, 6, 2, 3, 3, 9, 1))
	n, list = wished([]int{2, 2, 2, 2}, everyPair(4)...)
	placeIs(t, n, list, planOf(8, 0, 2, 2, 2, 4, 2, 6, 2))
	n, list = wished([]int{1, 2, 3, 64}, everyPair(4)...)
	placeIs(t, n, list, planOf(70, 69, 1, 67, 2, 64, 3, 0, 64))
	n, list = wished([]int{0, 4, 0, 5, 0}, [2]int{1, 3})
	placeIs(t, n, list, planOf(9, 0, 0, 5, 4, 0, 0, 0, 5, 0, 0))
	same := netOf(32) // more arcs than a sort that keeps no order leaves as they are
	var bases []int
	for i := range 96 {
		same.Arcs = append(same.Arcs, arc(i%32, i%32, 1, 1, 1+i%2))
		bases = append(bases, i/2+(1-i%2)*96+i/2*(i%2), 1+i%2)
	}
	placeIs(t, same, nil, planOf(144, bases...))
}

// TestGaps is P19.2: the least Base may lie below a region, between two, or above them all; a gap that is too small by one cell is passed.
func TestGaps(t *testing.T) {
	// 0 at 0 to 5; 1 clashes with it: 5 to 10; 2 clashes with 1 alone: 0 to 3; 3 clashes with 1 and 2.
	n, list := wished([]int{6, 5, 3, 3}, [2]int{0, 1}, [2]int{1, 2}, [2]int{1, 3}, [2]int{2, 3})
	placeIs(t, n, list, planOf(11, 0, 6, 6, 5, 0, 3, 3, 3))
	n, list = wished([]int{5, 5, 3, 3}, [2]int{0, 1}, [2]int{1, 2}, [2]int{1, 3}, [2]int{2, 3})
	placeIs(t, n, list, planOf(13, 0, 5, 5, 5, 0, 3, 10, 3))
	n, list = wished([]int{5, 5, 3, 2}, [2]int{0, 1}, [2]int{1, 2}, [2]int{1, 3}, [2]int{2, 3})
	placeIs(t, n, list, planOf(10, 0, 5, 5, 5, 0, 3, 3, 2))
	n, list = wished([]int{5, 5, 3, 1}, [2]int{0, 1}, [2]int{1, 2}, [2]int{1, 3}, [2]int{2, 3})
	placeIs(t, n, list, planOf(10, 0, 5, 5, 5, 0, 3, 3, 1))
	n, list = wished([]int{5, 5, 3, 2}, [2]int{0, 1}, [2]int{1, 2}, [2]int{1, 3})
	placeIs(t, n, list, planOf(10, 0, 5, 5, 5, 0, 3, 0, 2))
	// Two that do not clash lie one within the other; what clashes with both goes above the greater one.
	n, list = wished([]int{9, 4, 2}, [2]int{0, 2}, [2]int{1, 2})
	placeIs(t, n, list, planOf(11, 0, 9, 0, 4, 9, 2))
	n, list = wished([]int{9, 4, 2}, [2]int{1, 2})
	placeIs(t, n, list, planOf(9, 0, 9, 0, 4, 4, 2))
}

// TestFits is P19.2: up to MaxMem cells, and no more, by one arc's peak or by several that clash.
func TestFits(t *testing.T) {
	for _, peaks := range [][]int{{1024}, {512, 512}, {1023, 1}, {64, 960}, {400, 300, 200, 124}} {
		n, list := wished(peaks, everyPair(len(peaks))...)
		if p := placed(t, n, list); p.Total != 1024 {
			t.Errorf("%v: %v", peaks, p)
		}
		agrees(t, n, list)
	}
	for _, peaks := range [][]int{{1025}, {512, 513}, {1024, 1}, {65, 960}, {400, 300, 200, 125}, {2048}} {
		n, list := wished(peaks, everyPair(len(peaks))...)
		placeRefuses(t, n, list, api.ErrTooBig)
	}
	n, list := wished([]int{600, 600, 600})
	placeIs(t, n, list, planOf(600, 0, 600, 0, 600, 0, 600))
	full := netOf(1, slices.Repeat([]api.Arc{arc(0, 0, 1, 1, 256)}, 4)...)
	placeIs(t, full, []int{0}, planOf(1024, 0, 256, 256, 256, 512, 256, 768, 256))
	full.Arcs = append(full.Arcs, arc(0, 0, 1, 1, 0))
	placeRefuses(t, full, []int{0}, api.ErrFire)
	placeIs(t, full, nil, planOf(1024, 0, 256, 256, 256, 512, 256, 768, 256, 0, 0))
	full.Arcs[4].Start = 1
	placeRefuses(t, full, nil, api.ErrTooBig)
	placeRefuses(t, netOf(1, slices.Repeat([]api.Arc{arc(0, 0, 64, 64, 256)}, 96)...), make([]int, 2048), api.ErrTooBig)
}

// TestOwnWay is P19.2: the plan is the one that the promise tells, though another one would be smaller, and though that one alone would fit.
func TestOwnWay(t *testing.T) {
	crown := [][2]int{{0, 3}, {0, 5}, {1, 2}, {2, 5}, {1, 4}, {3, 4}}
	n, list := wished([]int{4, 4, 4, 4, 4, 4}, crown...)
	placeIs(t, n, list, planOf(12, 0, 4, 0, 4, 4, 4, 4, 4, 8, 4, 8, 4))
	checkIs(t, n, planOf(8, 0, 4, 4, 4, 0, 4, 4, 4, 0, 4, 4, 4), list, api.OK)
	n, list = wished(slices.Repeat([]int{400}, 6), crown...)
	placeRefuses(t, n, list, api.ErrTooBig)
	checkIs(t, n, planOf(800, 0, 400, 400, 400, 0, 400, 400, 400, 0, 400, 400, 400), list, api.OK)
}

// TestEveryWish is P19.1 and P19.2: four arcs with peaks up to 3, whichever of them clash, against a model that tries cell by cell.
func TestEveryWish(t *testing.T) {
	pairs := everyPair(4)
	for shape := range 64 {
		var some [][2]int
		for i, pair := range pairs {
			if shape>>i&1 == 1 {
				some = append(some, pair)
			}
		}
		for sizes := range 81 {
			n, list := wished([]int{1 + sizes%3, 1 + sizes/3%3, 1 + sizes/9%3, 1 + sizes/27}, some...)
			clashIs(t, n, list, some...)
			agrees(t, n, list)
		}
	}
}

// TestEverySmallNet is P19.1 and P19.2: all nets of two nodes and two arcs with rates up to 2 and starts up to 2, and all lists of up to four numbers from 0 to 2, against a model.
func TestEverySmallNet(t *testing.T) {
	met, clash := map[api.Errno]int{}, 0
	lists := everyList(0, 2, 4)
	for _, n := range smallNets() {
		for _, list := range lists {
			p, e := agrees(t, n, list)
			met[e]++
			if e == api.OK && len(list) > 0 && p.Total > max(p.Regions[0].Size, p.Regions[1].Size) {
				clash++
			}
		}
	}
	if met[api.OK] < 1000 || met[api.ErrNode] < 1000 || met[api.ErrFire] < 1000 || met[api.ErrHome] < 1000 || clash < 1000 {
		t.Error("too few of a kind", met, clash)
	}
}

// smallNets are all of two nodes and two arcs, with rates up to 2 and starts up to 2.
func smallNets() []api.Net {
	var arcs []api.Arc
	for i := range 48 {
		arcs = append(arcs, arc(i%2, i/2%2, 1+i/4%2, 1+i/8%2, i/16))
	}
	var all []api.Net
	for _, a := range arcs {
		for _, b := range arcs {
			all = append(all, netOf(2, a, b))
		}
	}
	return all
}

// everyList are all lists of up to so many numbers from one to another.
func everyList(from, to, most int) [][]int {
	all := [][]int{nil}
	for at := 0; len(all[at]) < most; at++ {
		for number := from; number <= to; number++ {
			all = append(all, append(slices.Clone(all[at]), number))
		}
	}
	return all
}

// TestMixedPlans is P19.1 to P19.3: many nets and lists, some of which are wrong, and plans for them, against a model.
func TestMixedPlans(t *testing.T) {
	c := chance(191)
	met, between := map[api.Errno]int{}, 0
	for round := range 8000 {
		n, list := c.homing()
		if round%2 == 0 {
			n, list = c.wish()
		}
		switch c.below(12) {
		case 0:
			list = c.flaw(list, n.Nodes)
		case 1:
			c.spoil(&n)
		case 2:
			list = slices.Repeat(list, 1+2048/max(1, len(list)))
		}
		p, e := agrees(t, n, list)
		met[e]++
		if e == api.OK {
			between += fillings(p)
			agrees(t, n, list, c.change(p), c.change(p), c.change(p))
		}
	}
	for _, e := range []api.Errno{api.OK, api.ErrNode, api.ErrRate, api.ErrStart, api.ErrLong, api.ErrFire, api.ErrHome, api.ErrTooBig} {
		if met[e] < 30 {
			t.Errorf("%v: %d only", e, met[e])
		}
	}
	if between < 1000 {
		t.Error("too few between others", between)
	}
}

// fillings is how many regions lie neither at 0 nor at the end.
func fillings(p api.Plan) int {
	many := 0
	for _, r := range p.Regions {
		if r.Base > 0 && r.Base+r.Size < p.Total {
			many++
		}
	}
	return many
}
