package nest_test

import (
	"math/big"
	"slices"
	"testing"

	"pianola/api"
	"pianola/nest"
)

func run(node, times int) api.Run { return api.Run{Node: node, Times: times} }

// runsAre fails, unless Runs answers these.
func runsAre(t *testing.T, list []int, want ...api.Run) {
	t.Helper()
	if got := nest.Runs(list...); !slices.Equal(got, want) {
		t.Fatalf("Runs(%v): %v, not %v", head(list), head(got), head(want))
	}
}

// flatIs fails, unless Flat answers this and nothing beside it.
func flatIs(t *testing.T, list []int, code api.Errno, runs ...api.Run) {
	t.Helper()
	if got, e := nest.Flat(runs...); e != code || !slices.Equal(got, list) {
		t.Fatalf("Flat(%v): %v %v, not %v %v", head(runs), head(got), e, head(list), code)
	}
}

// runsOf are a list's maximal runs: each is cut off where the number that begins it ends.
func runsOf(list []int) []api.Run {
	var all []api.Run
	for len(list) > 0 {
		many := slices.IndexFunc(list, func(x int) bool { return x != list[0] })
		if many < 0 {
			many = len(list)
		}
		all = append(all, run(list[0], many))
		list = list[many:]
	}
	return all
}

// flatOf is what Flat is to answer.
func flatOf(runs []api.Run) ([]int, api.Errno) {
	total := new(big.Int)
	for _, r := range runs {
		if r.Node < 0 || r.Node > 31 {
			return nil, api.ErrNode
		}
		if r.Times <= 0 {
			return nil, api.ErrTimes
		}
		total.Add(total, big.NewInt(int64(r.Times)))
	}
	if total.Cmp(big.NewInt(2048)) > 0 {
		return nil, api.ErrTooBig
	}
	var list []int
	for _, r := range runs {
		list = append(list, slices.Repeat([]int{r.Node}, r.Times)...)
	}
	return list, api.OK
}

// TestRunExamples is P16.5 and P16.6: the chapter's examples.
func TestRunExamples(t *testing.T) {
	runsAre(t, []int{3, 3, -1, 3}, run(3, 2), run(-1, 1), run(3, 1))
	flatIs(t, []int{3, 3, 1}, api.OK, run(3, 2), run(1, 1))
	flatIs(t, nil, api.ErrTimes, run(3, -1))
	flatIs(t, nil, api.ErrNode, run(32, 0))
	flatIs(t, nil, api.ErrNode, run(0, 2048), run(32, 1))
	flatIs(t, nil, api.ErrTooBig, run(0, 2048), run(1, 1))
}

// everyList goes through all lists of up to so many of these.
func everyList[T any](most int, of []T, look func(list []T)) {
	var from func(list []T)
	from = func(list []T) {
		look(list)
		if len(list) < most {
			for _, x := range of {
				from(append(slices.Clone(list), x))
			}
		}
	}
	from(nil)
}

// TestEveryRun is P16.5: all short lists of a few numbers, the least and the greatest among them, and long ones.
func TestEveryRun(t *testing.T) {
	look := func(list []int) { runsAre(t, list, runsOf(list)...) }
	everyList(8, []int{0, 1}, look)
	everyList(6, []int{-1, 0, 31}, look)
	everyList(4, []int{least, -1, 0, 1, 32, greatest}, look)
	c := chance(164)
	for range 500 {
		look(c.list(c.below(3000), pick(&c, nodes(), []int{0, 1}, []int{least, greatest, 0, 5})...))
	}
	long := 3000000
	runsAre(t, make([]int, long), run(0, long))
	runsAre(t, nil)
	runsAre(t, []int{})
	two := slices.Repeat([]int{greatest, least}, long/2)
	runsAre(t, two, slices.Repeat([]api.Run{run(greatest, 1), run(least, 1)}, long/2)...)
}

// TestEveryFlat is P16.6: all rows of up to three runs of some nodes and times, against a model.
func TestEveryFlat(t *testing.T) {
	met := map[api.Errno]int{}
	look := func(runs []api.Run) {
		list, e := flatOf(runs)
		flatIs(t, list, e, runs...)
		met[e]++
	}
	var some, few []api.Run
	for _, node := range []int{least, -1, 0, 1, 31, 32, greatest} {
		for _, times := range []int{least, -1, 0, 1, 2, 1024, 2047, 2048, 2049, 1 << 62, greatest} {
			some = append(some, run(node, times))
			if node != least && node != greatest && times > -2 && times != 2049 {
				few = append(few, run(node, times))
			}
		}
	}
	everyList(2, some, look)
	everyList(3, few, look)
	everyList(5, []api.Run{run(0, 1), run(0, 2), run(1, 1), run(1, 680), run(31, 1366)}, look)
	for _, e := range []api.Errno{api.OK, api.ErrNode, api.ErrTimes, api.ErrTooBig} {
		if met[e] < 300 {
			t.Errorf("%v: %d only", e, met[e])
		}
	}
}

// TestFlatLimits is P16.6: up to 2048 numbers, however many runs they are of, neighbours of the same node too; sums that pass 2^64 are not taken for small ones; what is wrong with the last run comes ahead of that.
func TestFlatLimits(t *testing.T) {
	single := slices.Repeat([]api.Run{run(5, 1)}, 2048)
	flatIs(t, slices.Repeat([]int{5}, 2048), api.OK, single...)
	flatIs(t, slices.Repeat([]int{5}, 2047), api.OK, single[1:]...)
	flatIs(t, nil, api.OK)
	for _, long := range [][]api.Run{
		append(slices.Clone(single), run(5, 1)),
		slices.Repeat(single, 500),
		slices.Repeat([]api.Run{run(0, 1<<62)}, 4),
		slices.Repeat([]api.Run{run(0, 1<<32)}, 1<<18),
		{run(0, greatest), run(0, greatest), run(0, 2)},
		{run(0, greatest), run(0, greatest), run(0, 3)},
		{run(0, greatest)},
		{run(0, 1), run(0, greatest)},
		{run(0, 2049)},
	} {
		flatIs(t, nil, api.ErrTooBig, long...)
		flatIs(t, nil, api.ErrNode, append(slices.Clone(long), run(-1, 1))...)
		flatIs(t, nil, api.ErrNode, append(slices.Clone(long), run(32, 0))...)
		flatIs(t, nil, api.ErrTimes, append(slices.Clone(long), run(31, 0), run(32, 1))...)
		flatIs(t, nil, api.ErrTimes, slices.Concat([]api.Run{run(0, least)}, long, []api.Run{run(32, 1)})...)
	}
}
