package actors

import "pianola/ints"

// These kinds keep nothing. How many ports and tokens they have, their rates tell.
type (
	up      struct{ common }
	down    struct{ common }
	weave   struct{ common }
	unweave struct{ common }
	add     struct{ common }
	quot    struct{ common }
	copies  struct{ common }
	drop    struct{ common }
)

func (u *up) fire(ins ...[]int) ([][]int, bool) {
	given := make([]int, u.outs[0])
	given[0] = ins[0][0]
	return [][]int{given}, true
}

func (d *down) fire(ins ...[]int) ([][]int, bool) { return single(ins[0][0]), true }

func (w *weave) fire(ins ...[]int) ([][]int, bool) {
	given := make([]int, w.outs[0])
	for at := range given {
		given[at] = ins[at%len(ins)][at/len(ins)]
	}
	return [][]int{given}, true
}

func (u *unweave) fire(ins ...[]int) ([][]int, bool) {
	outs := make([][]int, len(u.outs))
	for at, token := range ins[0] {
		port := at % len(outs)
		outs[port] = append(outs[port], token)
	}
	return outs, true
}

func (a *add) fire(ins ...[]int) ([][]int, bool) {
	tokens := make([]int, len(ins))
	for i, port := range ins {
		tokens[i] = port[0]
	}
	all, fits := ints.Sum(tokens...)
	return single(all), fits
}

func (q *quot) fire(ins ...[]int) ([][]int, bool) {
	whole, by := ins[0][0], ins[1][0]
	if by == 0 {
		return nil, false
	}
	// The least number by -1 does not fit, and the language's quotient would wrap round without a word.
	if by == -1 {
		opposite, fits := ints.Sub(0, whole)
		return single(opposite), fits
	}
	return single(whole / by), true
}

func (c *copies) fire(ins ...[]int) ([][]int, bool) {
	outs := make([][]int, len(c.outs))
	for i := range outs {
		outs[i] = []int{ins[0][0]}
	}
	return outs, true
}

func (d *drop) fire(ins ...[]int) ([][]int, bool) { return nil, true }

// single is what is given on a single port, a single token.
func single(token int) [][]int { return [][]int{{token}} }
