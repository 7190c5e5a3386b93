package peaks_test

import (
	"slices"
	"testing"

	"pianola/api"
	"pianola/net"
	"pianola/peaks"
)

const (
	least    = -9223372036854775808
	greatest = 9223372036854775807
)

func arc(from, to, give, take, start int) api.Arc {
	return api.Arc{From: from, To: to, Give: give, Take: take, Start: start}
}

func netOf(nodes int, arcs ...api.Arc) api.Net { return api.Net{Nodes: nodes, Arcs: arcs} }

// firedIn is how often each node stands in a list of nodes.
func firedIn(n api.Net, list []int) []int {
	fired := make([]int, n.Nodes)
	for _, node := range list {
		fired[node]++
	}
	return fired
}

// rowOf is what each arc has behind a list: it is reckoned from how often its two nodes stand there, whatever the order.
func rowOf(n api.Net, list []int) []int {
	fired := firedIn(n, list)
	var row []int
	for _, a := range n.Arcs {
		row = append(row, a.Start+a.Give*fired[a.From]-a.Take*fired[a.To])
	}
	return row
}

// may tells whether a node may fire at a moment that has this row.
func may(n api.Net, row []int, node int) bool {
	for i, a := range n.Arcs {
		if a.To == node && row[i] < a.Take {
			return false
		}
	}
	return true
}

// rowsOf is what Along is to answer.
func rowsOf(n api.Net, list []int) ([][]int, api.Errno) {
	if e := net.Check(n); e != api.OK {
		return nil, e
	}
	if len(list) > 2048 {
		return nil, api.ErrLong
	}
	rows := [][]int{rowOf(n, nil)}
	for i, node := range list {
		if node < 0 || node > n.Nodes-1 {
			return nil, api.ErrNode
		}
		if !may(n, rows[i], node) {
			return nil, api.ErrFire
		}
		rows = append(rows, rowOf(n, list[:i+1]))
	}
	return rows, api.OK
}

// mostOf is what Most is to answer where Along answers these rows: of each arc its numbers sorted, the last one.
func mostOf(rows [][]int) []int {
	var most []int
	for i := range rows[0] {
		var column []int
		for _, row := range rows {
			column = append(column, row[i])
		}
		slices.Sort(column)
		most = append(most, column[len(column)-1])
	}
	return most
}

func homeOf(rows [][]int) bool { return slices.Equal(rows[0], rows[len(rows)-1]) }

func sameRows(a, b [][]int) bool { return slices.EqualFunc(a, b, slices.Equal[[]int]) }

// head are the first ones of a list, which may be too long to be told.
func head[T any](list []T) []T { return list[:min(40, len(list))] }

// alongIs, mostIs and homeIs fail, unless the call answers this beside OK.
func alongIs(t *testing.T, n api.Net, list []int, want ...[]int) {
	t.Helper()
	if rows, e := peaks.Along(n, list...); e != api.OK || !sameRows(rows, want) {
		t.Fatalf("Along(%v, %v): %d rows %v %v, not %d rows %v", n, head(list), len(rows), head(rows), e, len(want), head(want))
	}
}

func mostIs(t *testing.T, n api.Net, list []int, want ...int) {
	t.Helper()
	if most, e := peaks.Most(n, list...); e != api.OK || !slices.Equal(most, want) {
		t.Fatalf("Most(%v, %v): %v %v, not %v", n, head(list), most, e, want)
	}
}

func homeIs(t *testing.T, n api.Net, list []int, want bool) {
	t.Helper()
	if is, e := peaks.Home(n, list...); e != api.OK || is != want {
		t.Fatalf("Home(%v, %v): %v %v, not %v", n, head(list), is, e, want)
	}
}

// refuses fails, unless all three calls answer this error and nothing beside it.
func refuses(t *testing.T, n api.Net, list []int, code api.Errno) {
	t.Helper()
	if rows, e := peaks.Along(n, list...); e != code || len(rows) != 0 {
		t.Fatalf("Along(%v, %v): %d rows %v %v, not %v", n, head(list), len(rows), head(rows), e, code)
	}
	if most, e := peaks.Most(n, list...); e != code || len(most) != 0 {
		t.Fatalf("Most(%v, %v): %v %v, not %v", n, head(list), most, e, code)
	}
	if is, e := peaks.Home(n, list...); e != code || is {
		t.Fatalf("Home(%v, %v): %v %v, not %v", n, head(list), is, e, code)
	}
}

// agrees fails, unless all three calls answer what the model says; it tells the model's rows.
func agrees(t *testing.T, n api.Net, list []int) ([][]int, api.Errno) {
	t.Helper()
	rows, e := rowsOf(n, list)
	if e != api.OK {
		refuses(t, n, list, e)
		return nil, e
	}
	alongIs(t, n, list, rows...)
	mostIs(t, n, list, mostOf(rows)...)
	homeIs(t, n, list, homeOf(rows))
	return rows, api.OK
}

// rowsAt are the rows that Along answers of what is not refused.
func rowsAt(t *testing.T, n api.Net, list []int) [][]int {
	t.Helper()
	rows, e := peaks.Along(n, list...)
	if e != api.OK {
		t.Fatalf("Along(%v, %v): %v", n, head(list), e)
	}
	return rows
}

// mostAt is what Most answers of what is not refused.
func mostAt(t *testing.T, n api.Net, list []int) []int {
	t.Helper()
	most, e := peaks.Most(n, list...)
	if e != api.OK {
		t.Fatalf("Most(%v, %v): %v", n, head(list), e)
	}
	return most
}

// homeAt is what Home answers of what is not refused.
func homeAt(t *testing.T, n api.Net, list []int) bool {
	t.Helper()
	is, e := peaks.Home(n, list...)
	if e != api.OK {
		t.Fatalf("Home(%v, %v): %v", n, head(list), e)
	}
	return is
}
