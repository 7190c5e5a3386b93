package pack_test

import (
	"slices"
	"testing"

	"pianola/api"
	"pianola/net"
	"pianola/pack"
)

const (
	least    = -9223372036854775808
	greatest = 9223372036854775807
)

func arc(from, to, give, take, start int) api.Arc {
	return api.Arc{From: from, To: to, Give: give, Take: take, Start: start}
}

func netOf(nodes int, arcs ...api.Arc) api.Net { return api.Net{Nodes: nodes, Arcs: arcs} }

// planOf is a plan, written as its total and, region by region, Base and Size.
func planOf(total int, numbers ...int) api.Plan {
	p := api.Plan{Total: total}
	for i := 0; i < len(numbers); i += 2 {
		p.Regions = append(p.Regions, api.Region{Base: numbers[i], Size: numbers[i+1]})
	}
	return p
}

// rowOf is what each arc has behind a list: it is reckoned from how often its two nodes stand there, whatever the order.
func rowOf(n api.Net, list []int) []int {
	fired := make([]int, n.Nodes)
	for _, node := range list {
		fired[node]++
	}
	var row []int
	for _, a := range n.Arcs {
		row = append(row, a.Start+a.Give*fired[a.From]-a.Take*fired[a.To])
	}
	return row
}

// may tells whether a node may fire at a moment that has this row.
func may(n api.Net, row []int, node int) bool {
	for i, a := range n.Arcs {
		if a.To == node && row[i] < a.Take {
			return false
		}
	}
	return true
}

// rowsOf is what peaks.Along is to answer.
func rowsOf(n api.Net, list []int) ([][]int, api.Errno) {
	if e := net.Check(n); e != api.OK {
		return nil, e
	}
	if len(list) > 2048 {
		return nil, api.ErrLong
	}
	rows := [][]int{rowOf(n, nil)}
	for i, node := range list {
		if node < 0 || node > n.Nodes-1 {
			return nil, api.ErrNode
		}
		if !may(n, rows[i], node) {
			return nil, api.ErrFire
		}
		rows = append(rows, rowOf(n, list[:i+1]))
	}
	return rows, api.OK
}

// model is what a list of firings asks for: all rows, which arcs clash (a table, both ways), the peaks, and whether the list comes home.
type model struct {
	rows  [][]int
	clash [][]bool
	most  []int
	home  bool
}

// modelOf goes from row to row, and writes down which arcs have tokens there together.
func modelOf(n api.Net, list []int) (model, api.Errno) {
	rows, e := rowsOf(n, list)
	if e != api.OK {
		return model{}, e
	}
	m := model{rows: rows, most: make([]int, len(n.Arcs)), home: slices.Equal(rows[0], rows[len(rows)-1])}
	for range n.Arcs {
		m.clash = append(m.clash, make([]bool, len(n.Arcs)))
	}
	for _, row := range rows {
		for i, has := range row {
			m.most[i] = max(m.most[i], has)
			for k, too := range row {
				if i != k && has >= 1 && too >= 1 {
					m.clash[i][k] = true
				}
			}
		}
	}
	return m, api.OK
}

// pairs are the pairs that clash.
func (m model) pairs() [][2]int {
	var all [][2]int
	for i, with := range m.clash {
		for k, is := range with {
			if is && i < k {
				all = append(all, [2]int{i, k})
			}
		}
	}
	return all
}

// next is the arc that gets its Base next, of those that have none yet; -1, if all have.
func (m model) next(has []bool) int {
	found := -1
	for i, peak := range m.most {
		if !has[i] && (found < 0 || peak > m.most[found]) {
			found = i
		}
	}
	return found
}

// free tells whether an arc may have these cells, where in each cell the arcs stand that have it already.
func (m model) free(arc, base int, memory [][]int) bool {
	for cell := base; cell < base+m.most[arc]; cell++ {
		if cell < len(memory) && slices.ContainsFunc(memory[cell], func(other int) bool { return m.clash[arc][other] }) {
			return false
		}
	}
	return true
}

// plan gives the arcs their Bases, each tried from 0 on, cell by cell; the total may be any.
func (m model) plan() api.Plan {
	p := api.Plan{Regions: make([]api.Region, len(m.most))}
	has := make([]bool, len(m.most))
	var memory [][]int
	for arc := m.next(has); arc >= 0; arc = m.next(has) {
		base := 0
		for !m.free(arc, base, memory) {
			base++
		}
		for cell := base; cell < base+m.most[arc]; cell++ {
			for len(memory) <= cell {
				memory = append(memory, nil)
			}
			memory[cell] = append(memory[cell], arc)
		}
		p.Regions[arc], has[arc] = api.Region{Base: base, Size: m.most[arc]}, true
	}
	p.Total = len(memory)
	return p
}

// place is what Place is to answer.
func (m model) place() (api.Plan, api.Errno) {
	if !m.home {
		return api.Plan{}, api.ErrHome
	}
	p := m.plan()
	if p.Total > 1024 {
		return api.Plan{}, api.ErrTooBig
	}
	return p, api.OK
}

// endOf is the cells of regions that are sound.
func endOf(regions []api.Region) int {
	ends := []int{0}
	for _, r := range regions {
		ends = append(ends, r.Base+r.Size)
	}
	slices.Sort(ends)
	return ends[len(ends)-1]
}

// overlap tells whether a cell is in both regions: it looks at each cell of one.
func overlap(one, other api.Region) bool {
	for cell := one.Base; cell < one.Base+one.Size; cell++ {
		if cell >= other.Base && cell < other.Base+other.Size {
			return true
		}
	}
	return false
}

// check is what Check is to answer.
func (m model) check(p api.Plan) api.Errno {
	if !m.home {
		return api.ErrHome
	}
	if len(p.Regions) != len(m.most) {
		return api.ErrArg
	}
	for i, r := range p.Regions {
		if r.Base < 0 || r.Base > 1024 || r.Size < 0 || r.Size > 1024 {
			return api.ErrArg
		}
		if r.Size < m.most[i] {
			return api.ErrSize
		}
	}
	if p.Total != endOf(p.Regions) {
		return api.ErrTotal
	}
	if p.Total > 1024 {
		return api.ErrTooBig
	}
	for _, pair := range m.pairs() {
		if overlap(p.Regions[pair[0]], p.Regions[pair[1]]) {
			return api.ErrShared
		}
	}
	return api.OK
}

func samePlan(a, b api.Plan) bool { return a.Total == b.Total && slices.Equal(a.Regions, b.Regions) }

// head are the first ones of a list, which may be too long to be told.
func head[T any](list []T) []T { return list[:min(40, len(list))] }

// clashIs, placeIs and checkIs fail, unless the call answers this.
func clashIs(t *testing.T, n api.Net, list []int, want ...[2]int) {
	t.Helper()
	if pairs, e := pack.Clash(n, list...); e != api.OK || !slices.Equal(pairs, want) {
		t.Fatalf("Clash(%v, %v): %v %v, not %v", n, head(list), pairs, e, want)
	}
}

func placeIs(t *testing.T, n api.Net, list []int, want api.Plan) {
	t.Helper()
	if p, e := pack.Place(n, list...); e != api.OK || !samePlan(p, want) {
		t.Fatalf("Place(%v, %v): %v %v, not %v", n, head(list), p, e, want)
	}
}

func checkIs(t *testing.T, n api.Net, p api.Plan, list []int, want api.Errno) {
	t.Helper()
	if e := pack.Check(n, p, list...); e != want {
		t.Fatalf("Check(%v, %v, %v): %v, not %v", n, p, head(list), e, want)
	}
}

// clashRefuses and placeRefuses fail, unless the call answers this error and nothing beside it.
func clashRefuses(t *testing.T, n api.Net, list []int, code api.Errno) {
	t.Helper()
	if pairs, e := pack.Clash(n, list...); e != code || len(pairs) != 0 {
		t.Fatalf("Clash(%v, %v): %v %v, not %v", n, head(list), pairs, e, code)
	}
}

func placeRefuses(t *testing.T, n api.Net, list []int, code api.Errno) {
	t.Helper()
	if p, e := pack.Place(n, list...); e != code || len(p.Regions) != 0 || p.Total != 0 {
		t.Fatalf("Place(%v, %v): %v %v, not %v", n, head(list), p, e, code)
	}
}

// agrees fails, unless Clash and Place answer what the model says, and Check so of all these plans, and of the model's. It tells what the model says of Place.
func agrees(t *testing.T, n api.Net, list []int, plans ...api.Plan) (api.Plan, api.Errno) {
	t.Helper()
	m, e := modelOf(n, list)
	if e != api.OK {
		clashRefuses(t, n, list, e)
		placeRefuses(t, n, list, e)
		for _, p := range plans {
			checkIs(t, n, p, list, e)
		}
		return api.Plan{}, e
	}
	clashIs(t, n, list, m.pairs()...)
	want, e := m.place()
	if e == api.OK {
		placeIs(t, n, list, want)
	} else {
		placeRefuses(t, n, list, e)
	}
	for _, p := range append(plans, want) {
		checkIs(t, n, p, list, m.check(p))
	}
	return want, e
}

// placed is what Place answers of what is not refused.
func placed(t *testing.T, n api.Net, list []int) api.Plan {
	t.Helper()
	p, e := pack.Place(n, list...)
	if e != api.OK {
		t.Fatalf("Place(%v, %v): %v", n, head(list), e)
	}
	return p
}

// clashing is what Clash answers of what is not refused.
func clashing(t *testing.T, n api.Net, list []int) [][2]int {
	t.Helper()
	pairs, e := pack.Clash(n, list...)
	if e != api.OK {
		t.Fatalf("Clash(%v, %v): %v", n, head(list), e)
	}
	return pairs
}
