package nest_test

import (
	"iter"
	"slices"
	"testing"

	"pianola/api"
	"pianola/nest"
)

// first are the first ones of what is ranged over, which is left behind them.
func first(all iter.Seq[int], many int) []int {
	var list []int
	if many == 0 {
		return nil
	}
	for node := range all {
		list = append(list, node)
		if len(list) == many {
			break
		}
	}
	return list
}

// TestLeft is P16.4: it may be left behind each firing, and begins anew each time.
func TestLeft(t *testing.T) {
	c := chance(162)
	nests := [][]api.Loop{nil, row(leaf(3, 1)), row(leaf(3, 5)), row(within(16, leaf(7, 3))), row(block(2, block(3, leaf(0, 1), leaf(1, 2)), leaf(2, 1)), leaf(4, 2))}
	for range 60 {
		nests = append(nests, c.nest(c.below(60), c.below(17)))
	}
	for _, loops := range nests {
		all, list := nest.All(loops...), firingsOf(loops)
		for many := range len(list) + 2 {
			if got, want := first(all, many), list[:min(many, len(list))]; !slices.Equal(got, want) {
				t.Fatalf("%s, left behind %d: %v, not %v", told(loops), many, got, want)
			}
			if got := slices.Collect(all); !slices.Equal(got, list) {
				t.Fatalf("%s, again: %v, not %v", told(loops), got, list)
			}
		}
	}
}

// TestNoMoreIsYielded is P16.4: once it is told to end, nothing more is yielded, neither of a leaf nor of a block around it.
func TestNoMoreIsYielded(t *testing.T) {
	loops := row(leaf(0, 2), block(2, leaf(1, 2), block(2, leaf(2, 2)), leaf(3, 1)), leaf(4, 1))
	list := firingsOf(loops)
	all := nest.All(loops...)
	for last := range list {
		calls := 0
		all(func(node int) bool {
			if calls > last || node != list[calls] {
				t.Fatalf("%d at %d, to end at %d", node, calls, last)
			}
			calls++
			return calls <= last
		})
		if calls != last+1 {
			t.Fatalf("%d, not %d", calls, last+1)
		}
	}
}

// TestLeftByPanic is P16.4: ranging over it from the first one on again, if it was left by a panic or from within another function.
func TestLeftByPanic(t *testing.T) {
	loops := row(block(3, leaf(1, 1), leaf(2, 2)))
	all := nest.All(loops...)
	for range 3 {
		func() {
			defer func() {
				if recover() != "far enough" {
					t.Fatal("another end")
				}
			}()
			for node := range all {
				if node == 2 {
					panic("far enough")
				}
			}
		}()
		if got := slices.Collect(all); !slices.Equal(got, firingsOf(loops)) {
			t.Fatal(got)
		}
	}
	find := func() int {
		for node := range all {
			if node == 2 {
				return node
			}
		}
		return -1
	}
	if find() != 2 || !slices.Equal(slices.Collect(all), firingsOf(loops)) {
		t.Fatal("not from the first one on")
	}
}

// TestWithinOneAnother is P16.4: several that range over the same at the same time do not disturb one another.
func TestWithinOneAnother(t *testing.T) {
	loops := row(block(2, leaf(1, 2), block(2, leaf(0, 1))), leaf(5, 1))
	list := firingsOf(loops)
	all := nest.All(loops...)
	outer := 0
	for node := range all {
		if node != list[outer] {
			t.Fatalf("%d at %d", node, outer)
		}
		outer++
		if got := slices.Collect(all); !slices.Equal(got, list) {
			t.Fatal(got)
		}
		if got := first(all, outer); !slices.Equal(got, list[:outer]) {
			t.Fatal(got)
		}
	}
	if outer != len(list) {
		t.Fatal(outer)
	}
	one, endOne := iter.Pull(all)
	two, endTwo := iter.Pull(all)
	defer endOne()
	for i, node := range list {
		a, aIs := one()
		if i%2 == 0 {
			if b, bIs := two(); !bIs || b != list[i/2] {
				t.Fatal(i, b, bIs)
			}
		}
		if !aIs || a != node {
			t.Fatal(i, a, aIs)
		}
	}
	endTwo()
	if _, more := one(); more {
		t.Fatal("more than there are")
	}
}

// TestChangedLater is P16.4: what the caller changes in the nest behind the call is not told, at any depth, ahead of the first range or between two firings.
func TestChangedLater(t *testing.T) {
	c := chance(163)
	changed := 0
	for range 1500 {
		loops := c.nest(c.below(200), pick(&c, 0, 1, 3, 16))
		list := firingsOf(loops)
		all := nest.All(loops...)
		for i := range 3 {
			c.spoil(loops)
			if got := slices.Collect(all); !slices.Equal(got, list) {
				t.Fatalf("%v, not %v, behind change %d", head(got), head(list), i)
			}
		}
		changed += min(1, len(loops))
	}
	if changed < 1000 {
		t.Errorf("%d only were changed", changed)
	}
	loops := row(block(2, leaf(1, 1), block(2, leaf(2, 1))))
	list := firingsOf(loops)
	var got []int
	for node := range nest.All(loops...) {
		got = append(got, node)
		loops[0].Times++
		loops[0].Body[0].Node++
		loops[0].Body[1].Body[0] = leaf(9, 9)
		loops[0].Body[1].Body = nil
		loops[0].Body[1].Body = row(leaf(8, 8))
	}
	if !slices.Equal(got, list) {
		t.Fatal(got)
	}
}

// TestMendedLater is P16.4: of a nest that was wrong at the call there are no firings, even if it is mended behind it; one that was sound has its firings, even if it is spoilt.
func TestMendedLater(t *testing.T) {
	for _, c := range []struct{ wrong, right api.Loop }{
		{leaf(0, 0), leaf(0, 1)},
		{leaf(32, 1), leaf(31, 1)},
		{odd(1, 1, leaf(0, 1)), block(1, leaf(0, 1))},
		{within(17, leaf(0, 1)), within(16, leaf(0, 1))},
		{leaf(0, 2048), leaf(0, 2047)},
	} {
		loops := row(leaf(6, 1), c.wrong)
		none := nest.All(loops...)
		loops[1] = c.right
		list := expanded(t, loops...)
		some := nest.All(loops...)
		loops[1] = c.wrong
		if got := slices.Collect(none); len(got) != 0 {
			t.Fatal(head(got))
		}
		if got := slices.Collect(some); !slices.Equal(got, list) {
			t.Fatal(head(got))
		}
	}
}
