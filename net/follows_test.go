package net_test

import (
	"slices"
	"testing"

	"pianola/api"
	"pianola/net"
)

// greatestNets are sound nets at the limits: every arc and node, the greatest rates and starts, all arcs at one node, all between two, all around.
func greatestNets() []api.Net {
	ends := []func(i int) (from, to int){
		func(i int) (int, int) { return i % 32, (i + 1) % 32 },
		func(i int) (int, int) { return i % 32, (i*i + 5*i) % 32 },
		func(i int) (int, int) { return 31, 31 },
		func(i int) (int, int) { return i % 32, 31 },
		func(i int) (int, int) { return 0, i % 32 },
		func(i int) (int, int) { return i % 2, (i + 1) % 2 },
	}
	rates := []func(i int) (give, take, start int){
		func(i int) (int, int, int) { return 64, 64, 256 },
		func(i int) (int, int, int) { return 64, 1, 256 },
		func(i int) (int, int, int) { return 1, 64, 256 },
		func(i int) (int, int, int) { return 1 + i%64, 64 - i*7%64, (i * 31) % 257 },
		func(i int) (int, int, int) { return 63, 64, 255 },
	}
	var all []api.Net
	for _, end := range ends {
		for _, rate := range rates {
			n := api.Net{Nodes: 32}
			for i := range 96 {
				from, to := end(i)
				give, take, start := rate(i)
				n.Arcs = append(n.Arcs, api.Arc{From: from, To: to, Give: give, Take: take, Start: start})
			}
			all = append(all, n)
		}
	}
	return all
}

// manyNets are the greatest ones and many others.
func manyNets(c *chance, many int) []api.Net {
	all := greatestNets()
	for range many {
		all = append(all, c.net())
	}
	return all
}

// walked fires up to so many nodes, each of them one that may, and tells which.
func walked(c *chance, s *net.State, n api.Net, most int) []int {
	var row []int
	for range most {
		may := ready(s, n)
		if len(may) == 0 {
			break
		}
		node := pick(c, may...)
		row = append(row, node)
		s.Fire(node)
	}
	return row
}

// again is a state in which a row has fired.
func again(t *testing.T, n api.Net, row ...int) *net.State {
	t.Helper()
	s, _ := begun(t, n)
	fires(t, s, len(row), row...)
	return s
}

// TestCountsFollow is P10.7: each arc has Start, and Give times what From has fired, less Take times what To has fired; never fewer than 0.
func TestCountsFollow(t *testing.T) {
	c := chance(107)
	long := 0
	for _, n := range manyNets(&c, 600) {
		s, m := begun(t, n)
		for range 40 {
			row := walked(&c, s, n, 3)
			long += len(row)
			if m.fire(row...) != len(row) {
				t.Fatalf("%v fired %v: then %v", n, m.fired, row)
			}
			agrees(t, s, m)
			if slices.ContainsFunc(s.Counts(), func(has int) bool { return has < 0 }) {
				t.Fatalf("%v fired %v: %v", n, s.Fired(), s.Counts())
			}
		}
	}
	if long < 30000 {
		t.Errorf("%d firings only", long)
	}
}

// TestOrderDoesNotCount is P10.7: of two rows with the same firings in another order, both of which fire, what comes out is the same.
func TestOrderDoesNotCount(t *testing.T) {
	c := chance(108)
	other := 0
	for _, n := range manyNets(&c, 600) {
		s, _ := begun(t, n)
		row := walked(&c, s, n, 60)
		left := slices.Clone(row)
		turned, _ := begun(t, n)
		var order []int
		for len(left) > 0 { // another order: of those left, any that may fire
			may := slices.DeleteFunc(slices.Clone(left), func(node int) bool { return !turned.May(node) })
			if len(may) == 0 {
				t.Fatalf("%v: of %v, none may fire behind %v", n, left, order)
			}
			node := pick(&c, may...)
			fires(t, turned, 1, node)
			order = append(order, node)
			at := slices.Index(left, node)
			left = slices.Delete(left, at, at+1)
		}
		has(t, turned, s.Counts(), s.Fired())
		if !slices.Equal(order, row) {
			other++
		}
	}
	if other < 200 {
		t.Errorf("%d rows only had another order", other)
	}
}

// TestStillMay is P10.7: a node that may fire still may when others have fired; two that may fire, may fire behind each other, with the same outcome.
func TestStillMay(t *testing.T) {
	c := chance(109)
	twos := 0
	for _, n := range manyNets(&c, 300) {
		s, _ := begun(t, n)
		row := walked(&c, s, n, c.below(20))
		may := ready(s, n)
		for range min(8, len(may)*len(may)) {
			first, second := pick(&c, may...), pick(&c, may...)
			if first == second {
				continue
			}
			twos++
			here := again(t, n, append(slices.Clone(row), first, second)...)
			there := again(t, n, append(slices.Clone(row), second, first)...)
			has(t, here, there.Counts(), there.Fired())
		}
		for _, node := range may {
			others := again(t, n, row...)
			for range 10 {
				left := slices.DeleteFunc(ready(others, n), func(other int) bool { return other == node })
				if len(left) > 0 {
					others.Fire(pick(&c, left...))
				}
				tells(t, others, node, true, -1)
			}
		}
	}
	if twos < 500 {
		t.Errorf("%d twos only", twos)
	}
}

// TestGreatestNets is P10.1, P10.3 and P10.7 at the limits: they are sound, one more of anything is not, and rows of all nodes fire as the model says.
func TestGreatestNets(t *testing.T) {
	for _, n := range greatestNets() {
		checks(t, n, api.OK)
		checks(t, api.Net{Nodes: 33, Arcs: n.Arcs}, api.ErrNode)
		checks(t, api.Net{Nodes: 32, Arcs: append(slices.Clone(n.Arcs), n.Arcs[0])}, api.ErrMany)
		s, m := begun(t, n)
		agrees(t, s, m)
		for round := range 20 {
			for node := range 32 {
				row := slices.Repeat([]int{(node*5 + round) % 32}, 1+round)
				fires(t, s, m.fire(row...), row...)
			}
			agrees(t, s, m)
		}
	}
}
