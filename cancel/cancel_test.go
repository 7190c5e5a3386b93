package cancel_test

import (
	"math/big"
	"slices"
	"testing"

	"pianola/api"
	"pianola/cancel"
	"pianola/frac"
)

const (
	least    = -9223372036854775808
	greatest = 9223372036854775807
)

func list(xs ...int) []int { return xs }

func many(n, x int) []int { return slices.Repeat([]int{x}, n) }

// with is a list of n ones, but for x at place i.
func with(n, i, x int) []int {
	xs := many(n, 1)
	xs[i] = x
	return xs
}

type pair struct{ ps, qs []int }

// edges are the pairs of lists that the chapter names or that stand at a limit.
func edges() []pair {
	return []pair{
		{nil, nil}, {list(12), nil}, {nil, list(12)}, {list(1, 1), nil}, {nil, list(1, 1)},
		{list(4, 6), list(2, 9)}, {list(6, 6), list(4)}, {list(4), list(6, 6)},
		{list(4, 9), list(6, 6)}, {list(4, 9), list(6, 7)}, {list(6), list(2, 3)}, {list(12, 18), list(8, 27)},
		{list(greatest), list(greatest)}, {list(greatest), list(greatest - 1)}, {list(greatest, 4), list(2)}, {list(greatest, 4), list(2, 2)},
		{list(greatest, greatest, 2), list(2, greatest, greatest)}, {list(greatest, greatest), list(49, 7)},
		{list(1<<62, 1<<62), list(1<<62, 1<<61)}, {list(1<<62, 4), nil}, {nil, list(1<<62, 2)}, {list(1 << 32), list(1<<31, 2)},
		{list(4294967296, 4294967296), nil}, {list(4294967296, 2147483648), list(3)}, {list(3037000500, 3037000500), list(1)}, {list(1), list(3037000499, 3037000499)},
		{many(1024, 2), many(1024, 2)}, {many(1024, 6), many(1024, 10)}, {many(1024, 1), many(1024, 1)}, {many(1024, 2), many(512, 4)}, {many(63, 2), nil}, {many(62, 2), nil},
	}
}

// mixed are pairs of lists of numbers with many small divisors, always the same ones.
func mixed() []pair {
	seed := uint64(20261116)
	next := func(n uint64) int {
		seed = seed*6364136223846793005 + 1442695040888963407
		return int((seed >> 33) % n)
	}
	numbers := func() []int {
		xs := make([]int, next(7))
		for i := range xs {
			xs[i] = 1
			for range next(5) {
				xs[i] *= list(2, 2, 3, 3, 4, 5, 6, 7, 11, 1<<20+7)[next(10)]
			}
		}
		return xs
	}
	var all []pair
	for range 4000 {
		all = append(all, pair{numbers(), numbers()})
	}
	return all
}

func all() []pair { return append(edges(), mixed()...) }

func product(xs []int) *big.Int {
	all := big.NewInt(1)
	for _, x := range xs {
		all.Mul(all, big.NewInt(int64(x)))
	}
	return all
}

func shared(a, b int) int {
	return int(new(big.Int).GCD(nil, nil, big.NewInt(int64(a)), big.NewInt(int64(b))).Int64())
}

// reduced goes by the chapter's words alone: place by place of the first list, and within that of the second one.
func reduced(x pair) ([]int, []int) {
	a, b := slices.Clone(x.ps), slices.Clone(x.qs)
	for i := range a {
		for j := range b {
			g := shared(a[i], b[j])
			a[i] /= g
			b[j] /= g
		}
	}
	return a, b
}

// TestLists is P3.1: which error all three calls tell, and the noughts beside it.
func TestLists(t *testing.T) {
	long := many(1025, 1)
	for i, x := range []struct {
		pair
		e api.Errno
	}{
		{pair{long, nil}, api.ErrLong},
		{pair{nil, long}, api.ErrLong},
		{pair{long, long}, api.ErrLong},
		{pair{many(5000, 3), list(2)}, api.ErrLong},
		{pair{many(1025, 0), nil}, api.ErrLong},
		{pair{with(1025, 1024, -1), list(1)}, api.ErrLong},
		{pair{long, list(0)}, api.ErrLong},
		{pair{list(0), long}, api.ErrLong},
		{pair{list(least), with(1025, 7, 0)}, api.ErrLong},
		{pair{list(0), list(5)}, api.ErrArg},
		{pair{list(5), list(-1)}, api.ErrArg},
		{pair{list(0), nil}, api.ErrArg},
		{pair{nil, list(0)}, api.ErrArg},
		{pair{list(0), list(0)}, api.ErrArg},
		{pair{list(-2), list(-2)}, api.ErrArg},
		{pair{list(least), list(least)}, api.ErrArg},
		{pair{nil, list(least)}, api.ErrArg},
		{pair{list(2, 0, 3), list(2, 3)}, api.ErrArg},
		{pair{list(greatest, greatest), list(2, 3, -4)}, api.ErrArg},
		{pair{with(1024, 1023, 0), nil}, api.ErrArg},
		{pair{many(1024, 1), with(1024, 1023, -7)}, api.ErrArg},
		{pair{with(1024, 0, -1), many(1024, 1)}, api.ErrArg},
		{pair{long[:1024], long[:1024]}, api.OK},
		{pair{list(1), list(1)}, api.OK},
		{pair{nil, nil}, api.OK},
	} {
		a, b, e := cancel.Reduce(x.ps, x.qs)
		if e != x.e || e != api.OK && len(a)+len(b) > 0 {
			t.Errorf("%d: Reduce: %v %v %v, not %v", i, a, b, e, x.e)
		}
		is, e := cancel.Equal(x.ps, x.qs)
		if e != x.e || is != (e == api.OK) {
			t.Errorf("%d: Equal: %v %v, not %v", i, is, e, x.e)
		}
		f, e := cancel.Ratio(x.ps, x.qs)
		if e != x.e || e != api.OK && f != (api.Frac{}) {
			t.Errorf("%d: Ratio: %v %v, not %v", i, f, e, x.e)
		}
	}
}

// TestReduce is P3.2, by the chapter's examples and by its words.
func TestReduce(t *testing.T) {
	for _, x := range []struct{ in, out pair }{
		{pair{list(4, 6), list(2, 9)}, pair{list(2, 2), list(1, 3)}},
		{pair{list(12), nil}, pair{list(12), nil}},
		{pair{nil, list(12, 12)}, pair{nil, list(12, 12)}},
		{pair{nil, nil}, pair{nil, nil}},
		{pair{list(6, 6), list(4)}, pair{list(3, 3), list(1)}},
		{pair{list(greatest, 3), list(3, greatest)}, pair{list(1, 1), list(1, 1)}},
		// What is taken in common is taken from the first places on, on both sides.
		{pair{list(2, 2, 2), list(2)}, pair{list(1, 2, 2), list(1)}},
		{pair{list(2), list(2, 2, 2)}, pair{list(1), list(1, 2, 2)}},
		{pair{list(4, 4), list(8)}, pair{list(1, 2), list(1)}},
		{pair{list(30), list(6, 10, 15)}, pair{list(1), list(1, 2, 15)}},
		{pair{list(6, 10, 15), list(30)}, pair{list(1, 2, 15), list(1)}},
	} {
		a, b, e := cancel.Reduce(x.in.ps, x.in.qs)
		if e != api.OK || !slices.Equal(a, x.out.ps) || !slices.Equal(b, x.out.qs) {
			t.Errorf("Reduce(%v, %v): %v %v %v, not %v", x.in.ps, x.in.qs, a, b, e, x.out)
		}
	}
	for _, x := range all() {
		wantA, wantB := reduced(x)
		a, b, e := cancel.Reduce(x.ps, x.qs)
		if e != api.OK || !slices.Equal(a, wantA) || !slices.Equal(b, wantB) {
			t.Errorf("Reduce(%v, %v): %v %v %v, not %v %v", x.ps, x.qs, a, b, e, wantA, wantB)
		}
	}
}

// TestEqual is P3.3, by the chapter's examples and by products that are formed.
func TestEqual(t *testing.T) {
	for _, x := range []struct {
		pair
		want bool
	}{
		{pair{list(4, 9), list(6, 6)}, true},
		{pair{list(4, 9), list(6, 7)}, false},
		{pair{nil, nil}, true},
		{pair{list(1, 1), nil}, true},
		{pair{nil, list(1)}, true},
		{pair{list(2), nil}, false},
		{pair{nil, list(2)}, false},
		{pair{list(greatest, greatest, 2), list(2, greatest, greatest)}, true},
		// Two products that are the same where they wrap round.
		{pair{list(1<<32, 1<<32), list(1<<62, 4, 2)}, false},
		{pair{list(1<<32, 1<<32), list(1<<62, 4)}, true},
	} {
		if is, e := cancel.Equal(x.ps, x.qs); is != x.want || e != api.OK {
			t.Errorf("Equal(%v, %v): %v %v", x.ps, x.qs, is, e)
		}
	}
	held := 0
	for _, x := range all() {
		want := product(x.ps).Cmp(product(x.qs)) == 0
		if want {
			held++
		}
		if is, e := cancel.Equal(x.ps, x.qs); is != want || e != api.OK {
			t.Errorf("Equal(%v, %v): %v %v", x.ps, x.qs, is, e)
		}
	}
	if held < 20 {
		t.Error("too few lists have the same product:", held)
	}
}

// TestRatio is P3.4, by the chapter's examples and by fractions that are wide.
func TestRatio(t *testing.T) {
	for _, x := range []struct {
		pair
		want api.Frac
		e    api.Errno
	}{
		{pair{list(4, 6), list(2, 9)}, api.Frac{Num: 4, Den: 3}, api.OK},
		{pair{list(greatest, 4), list(2)}, api.Frac{}, api.ErrBig},
		{pair{list(greatest, 4), list(2, 2)}, api.Frac{Num: greatest, Den: 1}, api.OK},
		{pair{nil, list(7, 7)}, api.Frac{Num: 1, Den: 49}, api.OK},
		{pair{nil, nil}, api.Frac{Num: 1, Den: 1}, api.OK},
		{pair{nil, list(greatest, 2)}, api.Frac{}, api.ErrBig},
		{pair{list(3), list(greatest, 3)}, api.Frac{Num: 1, Den: greatest}, api.OK},
		{pair{list(greatest), list(greatest - 1)}, api.Frac{Num: greatest, Den: greatest - 1}, api.OK},
		{pair{many(1024, greatest), many(1024, greatest)}, api.Frac{Num: 1, Den: 1}, api.OK},
		{pair{many(1024, greatest), many(1023, greatest)}, api.Frac{Num: greatest, Den: 1}, api.OK},
		{pair{many(1024, 6), many(1024, 10)}, api.Frac{}, api.ErrBig},
		{pair{many(62, 2), nil}, api.Frac{Num: 1 << 62, Den: 1}, api.OK},
		{pair{many(63, 2), nil}, api.Frac{}, api.ErrBig},
		{pair{nil, many(64, 2)}, api.Frac{}, api.ErrBig},
	} {
		if f, e := cancel.Ratio(x.ps, x.qs); f != x.want || e != x.e {
			t.Errorf("Ratio(%v, %v): %v %v, not %v %v", x.ps, x.qs, f, e, x.want, x.e)
		}
	}
	for _, x := range all() {
		f, e := cancel.Ratio(x.ps, x.qs)
		r := new(big.Rat).SetFrac(product(x.ps), product(x.qs))
		if !r.Num().IsInt64() || !r.Denom().IsInt64() {
			if f != (api.Frac{}) || e != api.ErrBig {
				t.Errorf("Ratio(%v, %v): %v %v, not ErrBig", x.ps, x.qs, f, e)
			}
			continue
		}
		if want := (api.Frac{Num: int(r.Num().Int64()), Den: int(r.Denom().Int64())}); f != want || e != api.OK || !frac.Valid(f) {
			t.Errorf("Ratio(%v, %v): %v %v, not %v", x.ps, x.qs, f, e, want)
		}
	}
}

// TestWhatReduceLeaves is P3.5: nothing in common, divisors of what was there, the same ratio, and the same with the lists changed about.
func TestWhatReduceLeaves(t *testing.T) {
	for _, x := range all() {
		a, b, e := cancel.Reduce(x.ps, x.qs)
		if e != api.OK || len(a) != len(x.ps) || len(b) != len(x.qs) {
			t.Fatalf("Reduce(%v, %v): %v %v %v", x.ps, x.qs, a, b, e)
		}
		for _, p := range slices.Compact(slices.Clone(a)) {
			for _, q := range slices.Compact(slices.Clone(b)) {
				if shared(p, q) != 1 {
					t.Errorf("Reduce(%v, %v): %d and %d have a divisor in common", x.ps, x.qs, p, q)
				}
			}
		}
		if !divide(a, x.ps) || !divide(b, x.qs) {
			t.Errorf("Reduce(%v, %v): %v %v: no divisors", x.ps, x.qs, a, b)
		}
		left := new(big.Int).Mul(product(x.ps), product(b))
		if left.Cmp(new(big.Int).Mul(product(x.qs), product(a))) != 0 {
			t.Errorf("Reduce(%v, %v): %v %v: another ratio", x.ps, x.qs, a, b)
		}
		b2, a2, e := cancel.Reduce(x.qs, x.ps)
		if e != api.OK || !slices.Equal(a, a2) || !slices.Equal(b, b2) {
			t.Errorf("Reduce(%v, %v): %v %v, but changed about %v %v", x.ps, x.qs, a, b, a2, b2)
		}
		is, _ := cancel.Equal(x.ps, x.qs)
		if onlyOnes := slices.Equal(a, many(len(a), 1)) && slices.Equal(b, many(len(b), 1)); is != onlyOnes {
			t.Errorf("Equal(%v, %v): %v, but %v %v are left", x.ps, x.qs, is, a, b)
		}
	}
}

func divide(xs, ys []int) bool {
	for i, x := range xs {
		if x < 1 || ys[i]%x != 0 {
			return false
		}
	}
	return true
}

// TestEqualHangsOnProductsAlone is P3.5: neither the order nor numbers that both have more count.
func TestEqualHangsOnProductsAlone(t *testing.T) {
	for _, x := range all() {
		want, _ := cancel.Equal(x.ps, x.qs)
		back := pair{slices.Clone(x.ps), slices.Clone(x.qs)}
		slices.Reverse(back.ps)
		more := pair{slices.Concat(list(12, greatest), x.ps), slices.Concat(x.qs, list(greatest, 12))}
		for _, y := range []pair{{back.ps, x.qs}, {x.ps, back.qs}, {x.qs, x.ps}, more} {
			if len(y.ps) > api.MaxFactors || len(y.qs) > api.MaxFactors {
				continue
			}
			if is, e := cancel.Equal(y.ps, y.qs); is != want || e != api.OK {
				t.Errorf("Equal(%v, %v): %v %v, but Equal(%v, %v): %v", y.ps, y.qs, is, e, x.ps, x.qs, want)
			}
		}
	}
}

// TestListsAreLeftAlone is R2: what is handed in stays as it is, what lies behind it isn't looked at, and what comes out is the caller's own.
func TestListsAreLeftAlone(t *testing.T) {
	room := list(4, 6, 0, -5, 2, 9, 0, least)
	before := slices.Clone(room)
	ps, qs := room[:2], room[4:6]
	calls := func() ([]int, []int) {
		a, b, e := cancel.Reduce(ps, qs)
		is, e2 := cancel.Equal(ps, qs)
		f, e3 := cancel.Ratio(ps, qs)
		if e != api.OK || e2 != api.OK || e3 != api.OK || is || f != (api.Frac{Num: 4, Den: 3}) {
			t.Error(e, e2, e3, is, f)
		}
		if !slices.Equal(a, list(2, 2)) || !slices.Equal(b, list(1, 3)) {
			t.Error(a, b)
		}
		if !slices.Equal(room, before) {
			t.Error("what was handed in has changed:", room)
		}
		return a, b
	}
	a, b := calls()
	scrawl(a)
	if !slices.Equal(b, list(1, 3)) || !slices.Equal(room, before) {
		t.Error("the first list shares its memory:", b, room)
	}
	scrawl(b)
	if !slices.Equal(room, before) {
		t.Error("the second list shares its memory:", room)
	}
	calls()
}

// TestOneListOnBothSides is R2: the same memory may stand on both sides, and what comes out is apart all the same.
func TestOneListOnBothSides(t *testing.T) {
	xs := list(6, 35)
	a, b, e := cancel.Reduce(xs, xs)
	if e != api.OK || !slices.Equal(a, list(1, 1)) || !slices.Equal(b, list(1, 1)) || !slices.Equal(xs, list(6, 35)) {
		t.Error(a, b, e, xs)
	}
	scrawl(a)
	if !slices.Equal(b, list(1, 1)) || !slices.Equal(xs, list(6, 35)) {
		t.Error("memory is shared:", b, xs)
	}
	if one, none, e := cancel.Reduce(xs, nil); e != api.OK || !slices.Equal(one, xs) || len(none) != 0 {
		t.Error(one, none, e)
	} else if scrawl(one); !slices.Equal(xs, list(6, 35)) {
		t.Error("memory is shared:", xs)
	}
}

// scrawl writes into a list and all of its spare room.
func scrawl(xs []int) {
	xs = xs[:cap(xs)]
	for i := range xs {
		xs[i] = -1000 - i
	}
}
