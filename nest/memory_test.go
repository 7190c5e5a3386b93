package nest_test

import (
	"reflect"
	"slices"
	"testing"

	"pianola/api"
	"pianola/nest"
)

// scrawl writes into a list and into all the room behind it.
func scrawl[T any](list []T, with T) {
	list = list[:cap(list)]
	for i := range list {
		list[i] = with
	}
}

// room is how much lies behind a roomy list.
const room = 7

// roomy is the same list with room behind it, in which this lies.
func roomy[T any](list []T, behind T) []T {
	long := slices.Concat(list, slices.Repeat([]T{behind}, room))
	return long[:len(list)]
}

// roomyNest is the same nest with room behind it and behind all its bodies, those of the leaves too, in which these lie.
func roomyNest(loops []api.Loop, behind api.Loop) []api.Loop {
	long := roomy(loops, behind)
	for i := range long {
		long[i].Body = roomyNest(long[i].Body, behind)
	}
	return long
}

// full is a roomy nest with all its room.
func full(loops []api.Loop) []api.Loop {
	all := slices.Clone(loops[:len(loops)+room])
	for i := range loops {
		all[i].Body = full(loops[i].Body)
	}
	return all
}

// TestGivenIsLeft is R2: nests, lists and runs, and the room behind them and behind what is within them, are neither written into nor, behind their lengths, read.
func TestGivenIsLeft(t *testing.T) {
	c := chance(261)
	met := map[api.Errno]int{}
	for round := range 800 {
		plain := c.nest(c.total()%300, c.below(17))
		for range round % 2 {
			c.spoil(plain)
		}
		behind := pick(&c, leaf(9, 1), leaf(32, 0), within(20, leaf(8, 1)), leaf(0, greatest))
		given, was := roomyNest(plain, behind), full(roomyNest(plain, behind))
		met[agrees(t, given...)]++
		if nest.Check(given...) != refusal(plain) {
			t.Fatalf("%s: %v", told(plain), nest.Check(given...))
		}
		if !reflect.DeepEqual(full(given), was) {
			t.Fatalf("%s is changed", told(plain))
		}
		list := roomy(c.list(c.below(200), nodes()...), 9)
		runs := roomy(runsOf(list), run(pick(&c, 9, 32), 3))
		runsAre(t, list, runs...)
		flatIs(t, list, api.OK, runs...)
		if !slices.Equal(runsOf(list), runs) || !slices.Equal(list[len(list):len(list)+room], slices.Repeat([]int{9}, room)) || runs[:cap(runs)][len(runs)].Times != 3 {
			t.Fatalf("%v or %v is changed", head(list), head(runs))
		}
	}
	if met[api.OK] < 400 || len(met) < 6 {
		t.Error("too few of a kind", met)
	}
}

// TestNothingIsKept is R2: what is answered is new memory; what is written into a list or an answer later is not seen in an answer, neither in one that is there nor in a later one.
func TestNothingIsKept(t *testing.T) {
	c := chance(262)
	for range 500 {
		loops := c.nest(c.total(), c.below(17))
		want := firingsOf(loops)
		all := nest.All(loops...)
		one, two := expanded(t, loops...), expanded(t, loops...)
		scrawl(one, -7)
		if !slices.Equal(two, want) || !slices.Equal(slices.Collect(all), want) || !slices.Equal(expanded(t, loops...), want) {
			t.Fatalf("%s: not %v any more", told(loops), head(want))
		}
		list := slices.Clone(want)
		cut := runsOf(list)
		runs, more := nest.Runs(list...), nest.Runs(list...)
		scrawl(list, -7)
		if !slices.Equal(runs, cut) {
			t.Fatalf("%v, not %v", head(runs), head(cut))
		}
		flat, e := nest.Flat(runs...)
		scrawl(runs, run(-7, -7))
		if e != api.OK || !slices.Equal(flat, want) || !slices.Equal(more, cut) {
			t.Fatalf("%v %v, not %v", head(flat), e, head(want))
		}
		scrawl(flat, -7)
		flatIs(t, want, api.OK, more...)
		for _, loop := range loops {
			scrawl(loop.Body, leaf(-7, -7))
		}
		scrawl(loops, leaf(-7, -7))
		if !slices.Equal(two, want) || !slices.Equal(slices.Collect(all), want) {
			t.Fatalf("not %v any more", head(want))
		}
	}
}

// TestCallsAreApart is R2: calls do not hang on those ahead of them, of other nests and of such that are refused or left early.
func TestCallsAreApart(t *testing.T) {
	c := chance(263)
	for range 200 {
		other := c.nest(c.total(), c.below(17))
		c.spoil(other)
		agrees(t, other...)
		first(nest.All(other...), 1+c.below(9))
		nest.Flat(run(c.below(40), c.below(3000)), run(c.below(33), c.below(3)))
		TestExamples(t)
		TestRunExamples(t)
	}
}
