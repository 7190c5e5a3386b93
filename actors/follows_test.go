package actors_test

import (
	"math/big"
	"slices"
	"testing"

	"pianola/actors"
	"pianola/api"
)

// behind is what the second actor gives of all that the first one gives of a firing.
func behind(t *testing.T, first, second *actors.Body, ins [][]int) ([][]int, api.Errno) {
	t.Helper()
	between, e := first.Fire(ins...)
	if e != api.OK {
		t.Fatalf("Fire %v: %v", ins, e)
	}
	return second.Fire(between...)
}

// back fails, unless the second actor gives what went into the first one.
func back(t *testing.T, first, second *actors.Body, ins [][]int) {
	t.Helper()
	if outs, e := behind(t, first, second, ins); e != api.OK || !same(outs, ins) {
		t.Errorf("%v: %v %v", ins, outs, e)
	}
}

// TestThereAndBack is P7.6: Down behind Up, Unweave behind Weave and the other way round.
func TestThereAndBack(t *testing.T) {
	c := chance(13)
	for n := 1; n <= api.MaxRate; n++ {
		up, down := body(t, api.Up, n), body(t, api.Down, n)
		for range 10 {
			back(t, up, down, lists(c.tokens(1)))
		}
		for m := 1; m*n <= api.MaxRate && n <= api.MaxPorts; m++ {
			weave, unweave := body(t, api.Weave, n, m), body(t, api.Unweave, n, m)
			for range 5 {
				var ins [][]int
				for range n {
					ins = append(ins, c.tokens(m))
				}
				back(t, weave, unweave, ins)
				back(t, unweave, weave, lists(c.tokens(n*m)))
			}
		}
	}
}

// TestCopyAndAdd is P7.6: n times the token, or a fault where that does not fit.
func TestCopyAndAdd(t *testing.T) {
	c := chance(17)
	for n := 1; n <= api.MaxPorts; n++ {
		first, second := body(t, api.Copy, n), body(t, api.Add, n)
		for range 100 {
			x := c.token()
			product := new(big.Int).Mul(wide(n), wide(x))
			outs, e := behind(t, first, second, lists(list(x)))
			if product.IsInt64() && (e != api.OK || !same(outs, lists(list(int(product.Int64()))))) {
				t.Errorf("%d times %d: %v %v", n, x, outs, e)
			}
			if !product.IsInt64() && e != api.ErrFault {
				t.Errorf("%d times %d: %v %v", n, x, outs, e)
			}
		}
	}
}

// TestFilterOfOne is P7.6: a Filter of a single 1 gives what it takes, and keeps nothing.
func TestFilterOfOne(t *testing.T) {
	c := chance(19)
	b := body(t, api.Filter, 1)
	for i, x := range append(list(least, greatest, 0), c.tokens(100)...) {
		fires(t, b, lists(list(x)), lists(list(x)), api.OK)
		is(t, b, nil, i+1)
	}
}

// laid is the taps laid against all that went in, the last of it at the first tap; false, if a product or a sum on the way does not fit.
func laid(taps, took []int) (int, bool) {
	var products []*big.Int
	for i, tap := range taps {
		if i < len(took) {
			products = append(products, new(big.Int).Mul(wide(tap), wide(took[len(took)-1-i])))
		}
	}
	return total(products...)
}

// TestTapsLaid is P7.6: what a Filter gives is its taps laid against what went in, whatever firings that failed lay between.
func TestTapsLaid(t *testing.T) {
	c := chance(23)
	failed := 0
	for n := 1; n <= api.MaxParams; n++ {
		for range 30 {
			taps := c.tokens(n)
			b := body(t, api.Filter, taps...)
			var took []int
			for range 60 {
				x := c.token()
				if c.below(10) == 0 {
					fires(t, b, lists(list(x, x)), nil, api.ErrArg)
				}
				given, ok := laid(taps, append(slices.Clone(took), x))
				if !ok {
					failed++
					fires(t, b, lists(list(x)), nil, api.ErrFault)
					continue
				}
				took = append(took, x)
				fires(t, b, lists(list(x)), lists(list(given)), api.OK)
			}
		}
	}
	if failed < 1000 {
		t.Errorf("%d firings failed", failed)
	}
}

// TestSumAndDifference is P7.6: Sum, and then a Filter of 1 and -1, gives what went in, while neither fails.
func TestSumAndDifference(t *testing.T) {
	c := chance(29)
	both := 0
	for range 300 {
		first, second := body(t, api.Sum), body(t, api.Filter, 1, -1)
		for range 20 {
			x := c.token()
			between, e := first.Fire(list(x))
			if e != api.OK {
				break
			}
			outs, e := second.Fire(between...)
			if e != api.OK {
				break
			}
			both++
			if !same(outs, lists(list(x))) {
				t.Errorf("%d: %v", x, outs)
			}
		}
	}
	if both < 500 {
		t.Errorf("%d firings of both", both)
	}
}
