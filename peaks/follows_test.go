package peaks_test

import (
	"slices"
	"testing"

	"pianola/api"
	"pianola/net"
)

// steps fails, unless from row to row only the arcs of the node that fires change, by their rates, and no number is below 0.
func steps(t *testing.T, n api.Net, list []int, rows [][]int) {
	t.Helper()
	if len(rows) != len(list)+1 {
		t.Fatalf("%v, %v: %d rows", n, head(list), len(rows))
	}
	for i, a := range n.Arcs {
		if rows[0][i] != a.Start {
			t.Fatalf("%v: arc %d begins with %d", n, i, rows[0][i])
		}
		for k, node := range list {
			change := 0
			if a.To == node {
				change -= a.Take
			}
			if a.From == node {
				change += a.Give
			}
			if rows[k+1][i] != rows[k][i]+change || rows[k+1][i] < 0 {
				t.Fatalf("%v, %v: arc %d has %d, then %d", n, head(list), i, rows[k][i], rows[k+1][i])
			}
		}
	}
}

// bounds fails, unless Most is what some row has on each arc, and no row has more.
func bounds(t *testing.T, n api.Net, list []int, rows [][]int) {
	t.Helper()
	for i, most := range mostAt(t, n, list) {
		if slices.ContainsFunc(rows, func(row []int) bool { return row[i] > most }) || !slices.ContainsFunc(rows, func(row []int) bool { return row[i] == most }) {
			t.Fatalf("%v, %v: arc %d has at most %d", n, head(list), i, most)
		}
	}
}

// TestFromRowToRow is P18.5: the first row, what changes from row to row, and what a state of chapter 10 has.
func TestFromRowToRow(t *testing.T) {
	c := chance(182)
	met := 0
	for range 2000 {
		n := c.net()
		list := c.list(n, pick(&c, 5, 40, 300))
		rows := rowsAt(t, n, list)
		steps(t, n, list, rows)
		bounds(t, n, list, rows)
		s, e := net.New(n)
		if e != api.OK || s.Fire(list...) != len(list) || !slices.Equal(s.Counts(), rows[len(list)]) {
			t.Fatalf("%v, %v: %v, not %v", n, head(list), s.Counts(), rows[len(list)])
		}
		met += min(1, len(list)*len(n.Arcs))
	}
	if met < 800 {
		t.Errorf("%d only", met)
	}
}

// TestBeginnings is P18.5: a beginning of the list has the beginning of the rows; so its Most is nowhere greater.
func TestBeginnings(t *testing.T) {
	c := chance(183)
	met := 0
	for range 400 {
		n := c.net()
		list := c.list(n, pick(&c, 5, 40))
		rows, most := rowsAt(t, n, list), mostAt(t, n, list)
		for k := range len(list) + 1 {
			alongIs(t, n, list[:k], rows[:k+1]...)
			homeIs(t, n, list[:k], slices.Equal(rows[k], rows[0]))
			for i, less := range mostAt(t, n, list[:k]) {
				if less > most[i] {
					t.Fatalf("%v, %v: arc %d has %d behind %d firings, at most %d", n, head(list), i, less, k, most[i])
				}
			}
			met++
		}
	}
	if met < 2000 {
		t.Errorf("%d only", met)
	}
}

// TestTwice is P18.5: where the list comes home, the list twice has its rows twice, the middle one once, and the same Most; if that is too long, it is refused.
func TestTwice(t *testing.T) {
	c := chance(184)
	met, away := 0, 0
	for range 1500 {
		n, list := c.homing()
		if !homeIfFires(t, n, list) {
			away++
			continue
		}
		rows, most := rowsAt(t, n, list), mostAt(t, n, list)
		twice := slices.Concat(list, list)
		alongIs(t, n, twice, slices.Concat(rows, rows[1:])...)
		mostIs(t, n, twice, most...)
		homeIs(t, n, twice, true)
		often := 2048 / len(list)
		mostIs(t, n, slices.Repeat(list, often), most...)
		homeIs(t, n, slices.Repeat(list, often), true)
		refuses(t, n, slices.Repeat(list, often+1), api.ErrLong)
		met++
	}
	if met < 1000 || away > 400 {
		t.Error("too few of a kind", met, away)
	}
}

// homeIfFires tells whether a list that balances fires, in which case it has to come home.
func homeIfFires(t *testing.T, n api.Net, list []int) bool {
	t.Helper()
	if _, e := rowsOf(n, list); e != api.OK {
		refuses(t, n, list, e)
		return false
	}
	if !homeAt(t, n, list) {
		t.Fatalf("%v, %v does not come home", n, head(list))
	}
	return true
}
