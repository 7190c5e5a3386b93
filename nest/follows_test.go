package nest_test

import (
	"slices"
	"testing"

	"pianola/api"
	"pianola/nest"
)

// joins fails, unless of a and b, one behind the other, all is as P16.7 says; it tells whether the two together are sound.
func joins(t *testing.T, a, b []api.Loop) bool {
	t.Helper()
	one, two := measured(t, a...), measured(t, b...)
	both := slices.Concat(a, b)
	if one.Total+two.Total > 2048 {
		refused(t, api.ErrTooBig, both...)
		return false
	}
	want := api.Size{Firings: one.Firings + two.Firings, Heads: one.Heads + two.Heads, Deep: max(one.Deep, two.Deep), Total: one.Total + two.Total}
	is(t, both, want, slices.Concat(expanded(t, a...), expanded(t, b...)))
	return true
}

// TestBehindOneAnother is P16.7: of two nests the firings stand one behind the other, and what is measured is added up.
func TestBehindOneAnother(t *testing.T) {
	c := chance(165)
	met := map[bool]int{}
	for range 1500 {
		a, b := c.nest(c.total(), c.below(17)), c.nest(c.total(), c.below(17))
		met[joins(t, a, b)]++
	}
	if met[true] < 300 || met[false] < 300 {
		t.Error("too few of a kind", met)
	}
	joins(t, nil, nil)
	joins(t, ones(1024), ones(1024))
	joins(t, ones(1024), ones(1025))
	joins(t, row(within(16, leaf(0, 1))), row(within(3, leaf(1, 2047))))
}

// TestCut is P16.7: a sound nest is cut between any two of its loops into two that are sound, and so is each of its bodies.
func TestCut(t *testing.T) {
	c := chance(166)
	cuts := 0
	for range 300 {
		loops := c.nest(pick(&c, 1+c.below(40), 1+c.below(300), 2048), c.below(17))
		for cut := range len(loops) + 1 {
			if cut%(1+len(loops)/20) == 0 {
				joins(t, loops[:cut], loops[cut:])
				cuts++
			}
		}
		for _, s := range order(loops) {
			if many := len(s.Body); many > 1 && c.below(8) == 0 {
				joins(t, s.Body[:many/2], s.Body[many/2:])
				cuts++
			}
		}
	}
	if cuts < 2000 {
		t.Errorf("%d cuts only", cuts)
	}
}

// TestRounds is P16.7: the block that goes through a nest m times has its firings m times; it is sound just if it is not too deep and has not too many.
func TestRounds(t *testing.T) {
	c := chance(167)
	met := map[api.Errno]int{}
	for range 1500 {
		loops := c.nest(max(1, c.total()), pick(&c, 0, 1, 5, 16))
		size := measured(t, loops...)
		for _, m := range []int{1, 2, 3, 2048 / size.Total, 2048/size.Total + 1, greatest} {
			around := block(m, loops...)
			switch {
			case size.Deep == 16:
				refused(t, api.ErrDeep, around)
				met[api.ErrDeep]++
			case m > 2048/size.Total:
				refused(t, api.ErrTooBig, around)
				met[api.ErrTooBig]++
			default:
				want := api.Size{Firings: size.Firings, Heads: size.Heads + min(1, m-1), Deep: size.Deep + 1, Total: size.Total * m}
				is(t, row(around), want, slices.Repeat(expanded(t, loops...), m))
				met[api.OK]++
			}
		}
		refused(t, api.ErrTimes, block(0, loops...))
		refused(t, api.ErrForm, odd(31, 1, loops...))
	}
	if met[api.OK] < 500 || met[api.ErrTooBig] < 500 || met[api.ErrDeep] < 20 {
		t.Error("too few of a kind", met)
	}
}

// TestThereAndBack is P16.8: Flat of the runs of a list of nodes is the list; no two runs that follow one another have the same node, and none fires less than once.
func TestThereAndBack(t *testing.T) {
	look := func(list []int) {
		t.Helper()
		runs := nest.Runs(list...)
		for i, r := range runs {
			if r.Times < 1 || i > 0 && runs[i-1].Node == r.Node {
				t.Fatalf("%v: %v", head(list), head(runs))
			}
		}
		if len(list) > 2048 {
			flatIs(t, nil, api.ErrTooBig, runs...)
		} else {
			flatIs(t, list, api.OK, runs...)
		}
	}
	everyList(7, []int{0, 31}, look)
	everyList(5, []int{0, 1, 2, 31}, look)
	c := chance(168)
	for range 1000 {
		many := pick(&c, c.below(10), c.below(2049), 2047, 2048, 2049, 3000)
		look(c.list(many, pick(&c, nodes(), []int{7}, []int{0, 1}, []int{30, 31, 0})...))
	}
	for _, list := range [][]int{{32}, {0, -1, 0}, {greatest}, {least, least}} {
		flatIs(t, nil, api.ErrNode, nest.Runs(list...)...)
	}
}

// TestRunsAsLeaves is P16.3 and P16.8: leaves of a list's runs, as a nest, expand to the list, as Flat does; and so does each sound nest, by its runs.
func TestRunsAsLeaves(t *testing.T) {
	c := chance(169)
	for range 300 {
		list := expanded(t, c.nest(c.total(), c.below(17))...)
		var loops []api.Loop
		for _, r := range nest.Runs(list...) {
			loops = append(loops, leaf(r.Node, r.Times))
		}
		if got := expanded(t, loops...); !slices.Equal(got, list) {
			t.Fatalf("%v, not %v", head(got), head(list))
		}
		flatIs(t, list, api.OK, nest.Runs(list...)...)
	}
}
