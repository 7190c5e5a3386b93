package actors_test

import (
	"math/big"

	"pianola/api"
)

const (
	least    = -9223372036854775808
	greatest = 9223372036854775807
)

// model is an actor by the chapter's table, reckoned in wide numbers.
type model struct {
	tag   api.Tag
	p     []int
	kept  []int
	fired int
}

// modelOf is a model that has not fired.
func modelOf(tag api.Tag, p []int) *model {
	m := &model{tag: tag, p: p}
	switch tag {
	case api.Filter:
		m.kept = make([]int, len(p)-1)
	case api.Sum:
		m.kept = []int{0}
	case api.Tick:
		m.kept = []int{p[0]}
	}
	return m
}

// rates are the table's of chapter 6.
func (m *model) rates() (ins, outs []int) {
	alike := func(n, rate int) []int {
		var side []int
		for len(side) < n {
			side = append(side, rate)
		}
		return side
	}
	p := m.p
	switch m.tag {
	case api.Up:
		return []int{1}, []int{p[0]}
	case api.Down:
		return []int{p[0]}, []int{1}
	case api.Weave:
		return alike(p[0], p[1]), []int{p[0] * p[1]}
	case api.Unweave:
		return []int{p[0] * p[1]}, alike(p[0], p[1])
	case api.Add:
		return alike(p[0], 1), []int{1}
	case api.Quot:
		return []int{1, 1}, []int{1}
	case api.Copy:
		return []int{1}, alike(p[0], 1)
	case api.Tick:
		return nil, []int{1}
	case api.Drop:
		return []int{p[0]}, nil
	}
	return []int{1}, []int{1}
}

func (m *model) fits(ins [][]int) bool {
	want, _ := m.rates()
	if len(want) != len(ins) {
		return false
	}
	for i := range want {
		if len(ins[i]) != want[i] {
			return false
		}
	}
	return true
}

// fire is what P7.3 says.
func (m *model) fire(ins [][]int) ([][]int, api.Errno) {
	if !m.fits(ins) {
		return nil, api.ErrArg
	}
	outs, ok := m.reckon(ins)
	if !ok {
		return nil, api.ErrFault
	}
	m.fired++
	return outs, api.OK
}

func wide(x int) *big.Int { return big.NewInt(int64(x)) }

// total is the sum of wide numbers, if each of them fits, and each sum on the way.
func total(xs ...*big.Int) (int, bool) {
	sum := new(big.Int)
	for _, x := range xs {
		if sum.Add(sum, x); !x.IsInt64() || !sum.IsInt64() {
			return 0, false
		}
	}
	return int(sum.Int64()), true
}

// reckon is what the table says that a firing gives, and keeps.
func (m *model) reckon(ins [][]int) ([][]int, bool) {
	switch m.tag {
	case api.Filter, api.Sum, api.Tick:
		return m.reckonKept(ins)
	case api.Add:
		var tokens []*big.Int
		for _, port := range ins {
			tokens = append(tokens, wide(port[0]))
		}
		sum, ok := total(tokens...)
		return [][]int{{sum}}, ok
	case api.Quot:
		if ins[1][0] == 0 {
			return nil, false
		}
		q, ok := total(new(big.Int).Quo(wide(ins[0][0]), wide(ins[1][0])))
		return [][]int{{q}}, ok
	}
	return m.move(ins), true
}

func (m *model) reckonKept(ins [][]int) ([][]int, bool) {
	switch m.tag {
	case api.Filter:
		row := append([]int{ins[0][0]}, m.kept...)
		var products []*big.Int
		for i, tap := range m.p {
			products = append(products, new(big.Int).Mul(wide(tap), wide(row[i])))
		}
		sum, ok := total(products...)
		if ok {
			m.kept = row[:len(m.p)-1]
		}
		return [][]int{{sum}}, ok
	case api.Sum:
		sum, ok := total(wide(m.kept[0]), wide(ins[0][0]))
		if ok {
			m.kept = []int{sum}
		}
		return [][]int{{sum}}, ok
	}
	given := m.kept[0]
	next, ok := total(wide(given), wide(m.p[1]))
	if ok {
		m.kept = []int{next}
	}
	return [][]int{{given}}, ok
}

// move is of those tags that only move tokens about.
func (m *model) move(ins [][]int) [][]int {
	_, rates := m.rates()
	outs := make([][]int, len(rates))
	for i, rate := range rates {
		outs[i] = make([]int, rate)
	}
	switch m.tag {
	case api.Up, api.Down:
		outs[0][0] = ins[0][0]
	case api.Weave:
		for i, port := range ins {
			for j, token := range port {
				outs[0][j*m.p[0]+i] = token
			}
		}
	case api.Unweave:
		for i := range outs {
			for j := range outs[i] {
				outs[i][j] = ins[0][j*m.p[0]+i]
			}
		}
	case api.Copy:
		for i := range outs {
			outs[i][0] = ins[0][0]
		}
	}
	return outs
}
