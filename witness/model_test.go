package witness_test

import (
	"math/big"
	"slices"
	"testing"

	"pianola/api"
	"pianola/witness"
)

const (
	least    = -9223372036854775808
	greatest = 9223372036854775807
)

// along and back are steps.
func along(arc int) api.Step { return api.Step{Arc: arc} }

func back(arc int) api.Step { return api.Step{Arc: arc, Back: true} }

// upTo are the numbers from 0 on, so many.
func upTo(many int) []int {
	all := make([]int, many)
	for i := range all {
		all[i] = i
	}
	return all
}

// twice tells whether a number stands twice.
func twice(list []int) bool {
	sorted := slices.Sorted(slices.Values(list))
	return len(slices.Compact(sorted)) < len(list)
}

// named tells whether all steps name arcs of the net.
func named(n api.Net, steps []api.Step) bool {
	arcs := upTo(len(n.Arcs))
	return !slices.ContainsFunc(steps, func(step api.Step) bool { return !slices.Contains(arcs, step.Arc) })
}

// productsOf are the two lists of a sound net's steps, which name arcs, as the words define them.
func productsOf(n api.Net, steps []api.Step) (with, against []int) {
	for _, step := range steps {
		give, take := n.Arcs[step.Arc].Give, n.Arcs[step.Arc].Take
		if step.Back {
			with, against = append(with, take), append(against, give)
		} else {
			with, against = append(with, give), append(against, take)
		}
	}
	return with, against
}

// roundTrip tells whether steps are a cycle of a sound net, as the words define it.
func roundTrip(n api.Net, steps []api.Step) bool {
	if !named(n, steps) {
		return false
	}
	var arcs, starts, ends []int
	for _, step := range steps {
		a := n.Arcs[step.Arc]
		arcs = append(arcs, step.Arc)
		if step.Back {
			starts, ends = append(starts, a.To), append(ends, a.From)
		} else {
			starts, ends = append(starts, a.From), append(ends, a.To)
		}
	}
	if len(steps) == 0 || twice(arcs) || twice(starts) || starts[0] != ends[len(ends)-1] {
		return false
	}
	return slices.Equal(starts[1:], ends[:len(ends)-1])
}

// product forms it, however great it is.
func product(list []int) *big.Int {
	all := big.NewInt(1)
	for _, number := range list {
		all.Mul(all, big.NewInt(int64(number)))
	}
	return all
}

// verdict is what Confirm is to answer of a sound net.
func verdict(n api.Net, steps []api.Step) api.Errno {
	if !roundTrip(n, steps) {
		return api.ErrCycle
	}
	with, against := productsOf(n, steps)
	if product(with).Cmp(product(against)) == 0 {
		return api.ErrAlike
	}
	return api.OK
}

// productsAre fails, unless Products answers this.
func productsAre(t *testing.T, n api.Net, steps []api.Step, with, against []int, code api.Errno) {
	t.Helper()
	p, q, e := witness.Products(n, steps...)
	if e != code || !slices.Equal(p, with) || !slices.Equal(q, against) {
		t.Fatalf("Products(%v, %v): %v %v %v, not %v %v %v", n, steps, p, q, e, with, against, code)
	}
}

// confirmIs fails, unless Confirm answers this.
func confirmIs(t *testing.T, n api.Net, steps []api.Step, code api.Errno) {
	t.Helper()
	if e := witness.Confirm(n, steps...); e != code {
		t.Fatalf("Confirm(%v, %v): %v, not %v", n, steps, e, code)
	}
}

// agrees fails, unless both calls answer, of a sound net, what the words say.
func agrees(t *testing.T, n api.Net, steps []api.Step) {
	t.Helper()
	switch {
	case len(steps) > 96:
		productsAre(t, n, steps, nil, nil, api.ErrLong)
	case !named(n, steps):
		productsAre(t, n, steps, nil, nil, api.ErrCycle)
	default:
		with, against := productsOf(n, steps)
		productsAre(t, n, steps, with, against, api.OK)
	}
	confirmIs(t, n, steps, verdict(n, steps))
}

// refused fails, unless both calls answer this error and nothing beside it.
func refused(t *testing.T, n api.Net, steps []api.Step, code api.Errno) {
	t.Helper()
	productsAre(t, n, steps, nil, nil, code)
	confirmIs(t, n, steps, code)
}
