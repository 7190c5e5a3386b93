package peaks_test

import (
	"slices"
	"testing"

	"pianola/api"
	"pianola/peaks"
)

// scrawl writes into a list and into all the room behind it.
func scrawl[T any](list []T, with T) {
	list = list[:cap(list)]
	for i := range list {
		list[i] = with
	}
}

// room is how much lies behind a roomy list.
const room = 40

// roomy is the same list with room behind it, in which these lie.
func roomy[T any](list []T, behind func(i int) T) []T {
	long := slices.Clone(list)
	for i := range room {
		long = append(long, behind(i))
	}
	return long[:len(list)]
}

// left fails, unless a roomy list and its room are as they were.
func left[T comparable](t *testing.T, list []T, behind func(i int) T, plain []T) {
	t.Helper()
	if was := roomy(plain, behind); !slices.Equal(list[:len(plain)+room], was[:len(plain)+room]) {
		t.Fatalf("%v is now %v", was[:len(plain)+room], list[:len(plain)+room])
	}
}

// TestGivenIsLeft is R2: the calls leave the net, the list and the room behind them, and do not read that room (an arc that lies there takes nothing, a node there does not fire, whether it is one or not).
func TestGivenIsLeft(t *testing.T) {
	c := chance(281)
	met := map[api.Errno]int{}
	for range 4000 {
		n, list := c.homing()
		switch c.below(6) {
		case 0:
			c.spoil(&n)
		case 1:
			list = c.flaw(list, n.Nodes)
		case 2:
			list = append(list, make([]int, 2049)...)
		}
		nodes := max(1, n.Nodes)
		arcBehind := func(i int) api.Arc { return arc(i%nodes, i%nodes, 64, 64, i) }
		nodeBehind := func(i int) int { return i - room/2*(i%2) }
		given, fires := api.Net{Nodes: n.Nodes, Arcs: roomy(n.Arcs, arcBehind)}, roomy(list, nodeBehind)
		_, e := agrees(t, given, fires)
		left(t, given.Arcs, arcBehind, n.Arcs)
		left(t, fires, nodeBehind, list)
		met[e]++
	}
	for _, e := range []api.Errno{api.OK, api.ErrNode, api.ErrLong, api.ErrFire} {
		if met[e] < 50 {
			t.Errorf("%v: %d only", e, met[e])
		}
	}
}

// TestRowsAreApart is R2: no two rows share memory, though they have the same numbers, nor does what is written into the list of rows reach another answer.
func TestRowsAreApart(t *testing.T) {
	c := chance(282)
	for range 300 {
		n := c.net()
		list := c.list(n, pick(&c, 3, 20))
		want, _ := rowsOf(n, list)
		for at := range want {
			rows := rowsAt(t, n, list)
			scrawl(rows[at], -7)
			for k := range rows {
				if k != at && !slices.Equal(rows[k], want[k]) {
					t.Fatalf("%v, %v: rows %d and %d share memory", n, list, at, k)
				}
			}
			rows[at] = slices.Clone(want[at])
			if !sameRows(rows, want) {
				t.Fatalf("%v, %v: %v, not %v", n, list, rows, want)
			}
		}
	}
}

// TestNothingIsKept is R2: what is written later into the net, the list or an answer is not seen in an answer, neither in one that is there nor in a later one.
func TestNothingIsKept(t *testing.T) {
	c := chance(283)
	for range 500 {
		n := c.net()
		list := c.list(n, c.below(pick(&c, 2, 20, 60)))
		want, _ := rowsOf(n, list)
		rows, most := rowsAt(t, n, list), mostAt(t, n, list)
		for _, row := range rowsAt(t, n, list) {
			scrawl(row, -7)
		}
		scrawl(rowsAt(t, n, list), nil)
		scrawl(mostAt(t, n, list), -7)
		agrees(t, n, list)
		scrawl(n.Arcs, arc(-7, -7, -7, -7, -7))
		scrawl(list, -7)
		if !sameRows(rows, want) || !slices.Equal(most, mostOf(want)) {
			t.Fatalf("%v, %v, not %v", rows, most, want)
		}
	}
}

// TestCallsAreApart is R2: calls do not hang on those ahead of them, of other nets and lists and of such that are refused.
func TestCallsAreApart(t *testing.T) {
	c := chance(284)
	for range 500 {
		n, list := c.homing()
		peaks.Most(n, list...)
		peaks.Along(n, c.flaw(list, n.Nodes)...)
		c.spoil(&n)
		peaks.Along(n, list...)
		peaks.Most(n, list...)
		peaks.Home(n, list...)
		TestExamples(t)
	}
}
