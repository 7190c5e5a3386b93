package loops_test

import (
	"reflect"
	"slices"
	"testing"

	"pianola/api"
	"pianola/loops"
	"pianola/nest"
)

// room is how much lies behind a roomy list.
const room = 5

// roomy is the same list with room behind it, in which this lies.
func roomy[T any](list []T, behind T) []T {
	long := slices.Concat(list, slices.Repeat([]T{behind}, room))
	return long[:len(list)]
}

// roomyRow is the same row with room behind it and behind all its bodies, those of the leaves too, in which these lie.
func roomyRow(of []api.Loop, behind api.Loop) []api.Loop {
	long := roomy(of, behind)
	for i := range long {
		long[i].Body = roomyRow(long[i].Body, behind)
	}
	return long
}

// full is a roomy row with all its room.
func full(of []api.Loop) []api.Loop {
	all := slices.Clone(of[:len(of)+room])
	for i := range of {
		all[i].Body = full(of[i].Body)
	}
	return all
}

// bodies are all lists of a row, itself the first one.
func bodies(of []api.Loop) [][]api.Loop {
	all := [][]api.Loop{of}
	for _, loop := range of {
		all = append(all, bodies(loop.Body)...)
	}
	return all
}

// scrawl writes into a list and into all the room behind it.
func scrawl[T any](list []T, with T) {
	list = list[:cap(list)]
	for i := range list {
		list[i] = with
	}
}

// TestGivenIsLeft is R2: rows and lists, and the room behind them and behind what is within them, are neither written into nor, behind their lengths, read.
func TestGivenIsLeft(t *testing.T) {
	c := chance(271)
	for range 400 {
		plain := c.row(pick(&c, 5, 30, 100), c.below(4))
		behind := pick(&c, leaf(0, 1), leaf(32, 0), within(20, leaf(8, 1)), leaf(0, greatest))
		given, was := roomyRow(plain, behind), full(roomyRow(plain, behind))
		for width := 0; width <= 17; width++ {
			if width == 0 || width == 17 {
				foldRefuses(t, api.ErrArg, width, given...)
			} else {
				foldIs(t, width, given, foldedOf(width, plain))
			}
			if !reflect.DeepEqual(full(given), was) {
				t.Fatalf("%s is changed", told(plain))
			}
		}
		numbers := c.list(pick(&c, 5, 30, 300))
		list := roomy(numbers, pick(&c, 0, 1, 32))
		all := slices.Clone(list[:cap(list)])
		compressIs(t, list, compressedOf(numbers)...)
		if !slices.Equal(list[:cap(list)], all) {
			t.Fatalf("%v is changed", head(list))
		}
	}
}

// apart fails, unless no two lists of an answer share memory: what is written into one of them, and into its room, is seen in no other.
func apart(t *testing.T, make func() []api.Loop) {
	t.Helper()
	many := len(bodies(make()))
	for at := range many {
		if at > 30 && at < many-5 {
			continue
		}
		all := bodies(make())
		was := slices.Clone(all)
		for i := range all {
			was[i] = slices.Clone(all[i])
		}
		scrawl(all[at], leaf(-7, -7))
		for i := range all {
			if i != at && !reflect.DeepEqual(all[i], was[i]) {
				t.Fatalf("%s: lists %d and %d share memory", told(make()), at, i)
			}
		}
	}
}

// TestNothingIsShared is R2: the lists of an answer are new memory, those within it too, though what was handed in shares its own.
func TestNothingIsShared(t *testing.T) {
	inner := singles(0, 1)
	outer := row(block(2, inner...), block(3, inner...), leaf(4, 1))
	shared := row(block(2, outer...), block(2, outer...), block(3, outer...), leaf(1, 1), block(3, outer...), leaf(1, 1))
	for width := 1; width <= 3; width++ {
		apart(t, func() []api.Loop {
			got, _ := loops.Fold(width, shared...)
			return got
		})
	}
	c := chance(272)
	for range 100 {
		of, width := c.row(pick(&c, 10, 60), c.below(4)), 1+c.below(3)
		apart(t, func() []api.Loop {
			got, _ := loops.Fold(width, of...)
			return got
		})
		list := c.list(pick(&c, 20, 100))
		apart(t, func() []api.Loop {
			got, _ := loops.Compress(list...)
			return got
		})
	}
	apart(t, func() []api.Loop {
		got, _ := loops.Compress(0, 1, 0, 1, 2, 0, 1, 0, 1, 3, 0, 1, 0, 1)
		return got
	})
}

// TestNothingIsKept is R2: what is written later into what was handed in, or into an answer, is not seen in an answer, neither in one that is there nor in a later one.
func TestNothingIsKept(t *testing.T) {
	c := chance(273)
	for range 300 {
		of, width := c.row(pick(&c, 10, 60, 300), c.below(4)), 1+c.below(3)
		want := foldedOf(width, roomyRow(of, leaf(0, 1)))
		one, _ := loops.Fold(width, of...)
		for _, body := range bodies(one) {
			scrawl(body, leaf(-7, -7))
		}
		foldIs(t, width, of, want)
		two, _ := loops.Fold(width, of...)
		for _, body := range bodies(of) {
			scrawl(body, leaf(-7, -7))
		}
		if !same(two, want) {
			t.Fatalf("%s, not %s", told(two), told(want))
		}
		list := c.list(pick(&c, 10, 100))
		packed := compressedOf(list)
		three, _ := loops.Compress(list...)
		four, _ := loops.Compress(list...)
		for _, body := range bodies(three) {
			scrawl(body, leaf(-7, -7))
		}
		compressIs(t, list, packed...)
		scrawl(list, -7)
		if !same(four, packed) {
			t.Fatalf("%s, not %s", told(four), told(packed))
		}
	}
}

// TestCallsAreApart is R2: calls do not hang on those ahead of them, of other rows and lists and of such that are refused.
func TestCallsAreApart(t *testing.T) {
	c := chance(274)
	for range 200 {
		loops.Fold(c.below(19)-1, c.row(50, c.below(4))...)
		loops.Fold(1, within(16, leaf(0, 1)), within(16, leaf(0, 1)))
		loops.Compress(c.list(300)...)
		loops.Compress(c.below(64), c.below(64))
		TestFoldExamples(t)
		TestCompressExamples(t)
	}
}

// TestSharedBodies is R1: rows whose bodies lie in the same memory, over and over, are folded as others are, or refused.
func TestSharedBodies(t *testing.T) {
	for _, wide := range []int{1, 2, 3, 5} {
		loop := leaf(1, 1)
		for deep := 1; deep <= 17; deep++ {
			loop = block(1, slices.Repeat(row(loop), wide)...)
			of := row(loop, loop, leaf(2, 1))
			if e := nest.Check(of...); e != api.OK {
				foldRefuses(t, e, 1, of...)
				continue
			}
			foldAgrees(t, of...)
		}
	}
}
