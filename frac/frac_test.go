package frac_test

import (
	"math/big"
	"slices"
	"testing"

	"pianola/api"
	"pianola/frac"
)

const (
	least    = -9223372036854775808
	greatest = 9223372036854775807
)

func of(n, d int) api.Frac { return api.Frac{Num: n, Den: d} }

// edges are numbers at which the promises turn: both ends, the halves, the roots, and those about 0.
func edges() []int {
	return []int{
		least, least + 1, least / 2, -4294967296, -3037000500, -6, -4, -3, -2, -1, 0,
		1, 2, 3, 4, 6, 3037000499, 3037000500, 4294967295, 4294967296, greatest / 2, greatest/2 + 1, greatest - 1, greatest,
	}
}

// pairs are all fractions of edges, in lowest terms or not, with a 0 below too.
func pairs() []api.Frac {
	var all []api.Frac
	for _, n := range edges() {
		for _, d := range edges() {
			all = append(all, of(n, d))
		}
	}
	return all
}

// lowest are those of pairs that are in lowest terms, as wide numbers tell it.
func lowest() []api.Frac {
	return slices.DeleteFunc(pairs(), func(f api.Frac) bool { return !isLowest(f) })
}

// isLowest goes by the chapter's words alone.
func isLowest(f api.Frac) bool {
	if f.Den <= 0 {
		return false
	}
	r := wide(f)
	return r.Num().Cmp(big.NewInt(int64(f.Num))) == 0 && r.Denom().Cmp(big.NewInt(int64(f.Den))) == 0
}

func wide(f api.Frac) *big.Rat { return big.NewRat(int64(f.Num), int64(f.Den)) }

type answer struct {
	f api.Frac
	e api.Errno
}

func told(f api.Frac, e api.Errno) answer { return answer{f, e} }

func wrong(e api.Errno) answer { return answer{e: e} }

// rightly is what the promises ask for where the fraction is r.
func rightly(r *big.Rat) answer {
	if !r.Num().IsInt64() || !r.Denom().IsInt64() {
		return wrong(api.ErrBig)
	}
	return answer{of(int(r.Num().Int64()), int(r.Denom().Int64())), api.OK}
}

type example struct {
	call      string
	got, want answer
}

func check(t *testing.T, examples []example) {
	t.Helper()
	for _, x := range examples {
		if x.got != x.want {
			t.Errorf("%s: %v, not %v", x.call, x.got, x.want)
		}
	}
}

// P2.1

func TestNewExamples(t *testing.T) {
	check(t, []example{
		{"6 over -4", told(frac.New(6, -4)), answer{f: of(-3, 2)}},
		{"0 over least", told(frac.New(0, least)), answer{f: of(0, 1)}},
		{"0 over -7", told(frac.New(0, -7)), answer{f: of(0, 1)}},
		{"5 over 0", told(frac.New(5, 0)), wrong(api.ErrZero)},
		{"0 over 0", told(frac.New(0, 0)), wrong(api.ErrZero)},
		{"least over 0", told(frac.New(least, 0)), wrong(api.ErrZero)},
		{"least over -1", told(frac.New(least, -1)), wrong(api.ErrBig)},
		{"least over -3", told(frac.New(least, -3)), wrong(api.ErrBig)},
		{"least over -2", told(frac.New(least, -2)), answer{f: of(1<<62, 1)}},
		{"least over 1", told(frac.New(least, 1)), answer{f: of(least, 1)}},
		{"least over itself", told(frac.New(least, least)), answer{f: of(1, 1)}},
		{"1 over least", told(frac.New(1, least)), wrong(api.ErrBig)},
		{"3 over least", told(frac.New(3, least)), wrong(api.ErrBig)},
		{"2 over least", told(frac.New(2, least)), answer{f: of(-1, 1<<62)}},
		{"greatest over least", told(frac.New(greatest, least)), wrong(api.ErrBig)},
		{"-7 over -7", told(frac.New(-7, -7)), answer{f: of(1, 1)}},
	})
}

func TestNewAtAllEdges(t *testing.T) {
	for _, f := range pairs() {
		want := wrong(api.ErrZero)
		if f.Den != 0 {
			want = rightly(wide(f))
		}
		if got := told(frac.New(f.Num, f.Den)); got != want {
			t.Errorf("%v: %v, not %v", f, got, want)
		}
	}
}

// P2.2

func TestValidExamples(t *testing.T) {
	for _, x := range []struct {
		f    api.Frac
		want bool
	}{
		{of(3, 2), true}, {of(6, 4), false}, {of(0, 1), true}, {of(0, 2), false}, {of(1, 0), false}, {of(1, -2), false},
		{of(0, 0), false}, {of(0, -1), false}, {of(-3, 2), true}, {of(least, 3), true}, {of(least, 2), false},
		{of(least, least), false}, {of(1, least), false}, {of(0, least), false}, {of(greatest, greatest), false}, {of(least, greatest), true},
	} {
		if got := frac.Valid(x.f); got != x.want {
			t.Errorf("%v: %v", x.f, got)
		}
	}
}

func TestValidAtAllEdges(t *testing.T) {
	for _, f := range pairs() {
		if got := frac.Valid(f); got != isLowest(f) {
			t.Errorf("%v: %v", f, got)
		}
	}
}

// P2.3

func TestMulExamples(t *testing.T) {
	check(t, []example{
		{"none", told(frac.Mul()), answer{f: of(1, 1)}},
		{"one", told(frac.Mul(of(-2, 3))), answer{f: of(-2, 3)}},
		{"2/3 3/4", told(frac.Mul(of(2, 3), of(3, 4))), answer{f: of(1, 2)}},
		{"nought by a third", told(frac.Mul(of(0, 1), of(1, 3))), answer{f: of(0, 1)}},
		{"a third by nought", told(frac.Mul(of(1, 3), of(0, 1))), answer{f: of(0, 1)}},
		{"least/1 -1/1", told(frac.Mul(of(least, 1), of(-1, 1))), wrong(api.ErrBig)},
		{"least/1 -1/2", told(frac.Mul(of(least, 1), of(-1, 2))), answer{f: of(1<<62, 1)}},
		{"least/1 1/1", told(frac.Mul(of(least, 1), of(1, 1))), answer{f: of(least, 1)}},
		{"1/greatest 1/2", told(frac.Mul(of(1, greatest), of(1, 2))), wrong(api.ErrBig)},
	})
}

func TestMulMeetsWhatDoesNotFitOnTheWay(t *testing.T) {
	check(t, []example{
		{"above, brought back", told(frac.Mul(of(greatest, 1), of(2, 1), of(1, 2))), wrong(api.ErrBig)},
		{"below, brought back", told(frac.Mul(of(1, greatest), of(1, 2), of(2, 1))), wrong(api.ErrBig)},
		{"brought back by nought", told(frac.Mul(of(greatest, 1), of(2, 1), of(0, 1))), wrong(api.ErrBig)},
		{"nought ahead", told(frac.Mul(of(0, 1), of(greatest, 1), of(2, 1))), answer{f: of(0, 1)}},
		{"in an order that fits", told(frac.Mul(of(greatest, 1), of(1, 2), of(2, 1))), answer{f: of(greatest, 1)}},
		{"divided across", told(frac.Mul(of(greatest, 1<<62), of(1<<62, greatest))), answer{f: of(1, 1)}},
	})
}

func TestMulRefusesWhereverItStands(t *testing.T) {
	for _, bad := range []api.Frac{of(2, 4), of(0, 2), of(1, 0), of(0, 0), of(1, -2), of(least, least)} {
		check(t, []example{
			{"alone", told(frac.Mul(bad)), wrong(api.ErrArg)},
			{"behind nought", told(frac.Mul(of(0, 1), bad)), wrong(api.ErrArg)},
			{"first", told(frac.Mul(bad, of(1, 2))), wrong(api.ErrArg)},
			{"in the middle", told(frac.Mul(of(1, 2), bad, of(1, 2))), wrong(api.ErrArg)},
			{"behind what does not fit", told(frac.Mul(of(greatest, 1), of(greatest, 1), bad)), wrong(api.ErrArg)},
		})
	}
}

func TestMulOfTwoAtAllEdges(t *testing.T) {
	all := lowest()
	for _, a := range all {
		for _, b := range all {
			want := rightly(new(big.Rat).Mul(wide(a), wide(b)))
			if got := told(frac.Mul(a, b)); got != want {
				t.Fatalf("%v times %v: %v, not %v", a, b, got, want)
			}
		}
	}
}

func TestMulGoesFromTheLeft(t *testing.T) {
	few := []api.Frac{of(greatest, 1), of(1, greatest), of(least, 1), of(2, 1), of(1, 2), of(-1, 1), of(0, 1), of(3, 4294967296), of(4294967296, 3)}
	for _, a := range few {
		for _, b := range few {
			for _, c := range few {
				want := rightly(new(big.Rat).Mul(wide(a), wide(b)))
				if want.e == api.OK {
					want = rightly(new(big.Rat).Mul(wide(want.f), wide(c)))
				}
				if got := told(frac.Mul(a, b, c)); got != want {
					t.Fatalf("%v %v %v: %v, not %v", a, b, c, got, want)
				}
			}
		}
	}
}

// P2.4

func TestInvExamples(t *testing.T) {
	check(t, []example{
		{"-2/3", told(frac.Inv(of(-2, 3))), answer{f: of(-3, 2)}},
		{"2/3", told(frac.Inv(of(2, 3))), answer{f: of(3, 2)}},
		{"nought", told(frac.Inv(of(0, 1))), wrong(api.ErrZero)},
		{"nought, not in lowest terms", told(frac.Inv(of(0, 2))), wrong(api.ErrArg)},
		{"nought over nought", told(frac.Inv(of(0, 0))), wrong(api.ErrArg)},
		{"least/3", told(frac.Inv(of(least, 3))), wrong(api.ErrBig)},
		{"least/1", told(frac.Inv(of(least, 1))), wrong(api.ErrBig)},
		{"least/2", told(frac.Inv(of(least, 2))), wrong(api.ErrArg)},
		{"2/-3", told(frac.Inv(of(2, -3))), wrong(api.ErrArg)},
		{"1/0", told(frac.Inv(of(1, 0))), wrong(api.ErrArg)},
	})
}

func TestInvAtAllEdges(t *testing.T) {
	for _, f := range pairs() {
		want := wrong(api.ErrArg)
		if isLowest(f) && f.Num == 0 {
			want = wrong(api.ErrZero)
		} else if isLowest(f) {
			want = rightly(new(big.Rat).Inv(wide(f)))
		}
		if got := told(frac.Inv(f)); got != want {
			t.Errorf("%v: %v, not %v", f, got, want)
		}
	}
}

// P2.5

func TestCmpExamples(t *testing.T) {
	for _, x := range []struct {
		a, b api.Frac
		want int
		e    api.Errno
	}{
		{of(1, 3), of(1, 2), -1, api.OK},
		{of(greatest, greatest-1), of(greatest-1, greatest-2), -1, api.OK},
		{of(greatest-1, greatest-2), of(greatest, greatest-1), 1, api.OK},
		{of(-1, 2), of(-1, 2), 0, api.OK},
		{of(-1, 2), of(-1, 3), -1, api.OK},
		{of(-1, 2), of(1, 3), -1, api.OK},
		{of(0, 1), of(-1, greatest), 1, api.OK},
		{of(0, 1), of(1, greatest), -1, api.OK},
		{of(0, 1), of(0, 1), 0, api.OK},
		{of(least, greatest), of(-1, 1), -1, api.OK},
		{of(least, 1), of(least+1, 1), -1, api.OK},
		{of(2, 1), of(2, 2), 0, api.ErrArg},
		{of(2, 2), of(2, 1), 0, api.ErrArg},
		{of(1, 0), of(1, 0), 0, api.ErrArg},
		{of(-1, 1), of(1, -1), 0, api.ErrArg},
	} {
		if got, e := frac.Cmp(x.a, x.b); got != x.want || e != x.e {
			t.Errorf("%v and %v: %d %v", x.a, x.b, got, e)
		}
	}
}

func TestCmpAtAllEdges(t *testing.T) {
	all := lowest()
	for _, a := range all {
		for _, b := range all {
			if got, e := frac.Cmp(a, b); got != wide(a).Cmp(wide(b)) || e != api.OK {
				t.Fatalf("%v and %v: %d %v", a, b, got, e)
			}
		}
	}
}

// P2.6

func TestScaleExamples(t *testing.T) {
	for _, x := range []struct {
		fs     []api.Frac
		factor int
		wholes []int
		e      api.Errno
	}{
		{[]api.Frac{of(1, 2), of(-2, 3), of(5, 1)}, 6, []int{3, -4, 30}, api.OK},
		{nil, 1, nil, api.OK},
		{[]api.Frac{of(0, 1)}, 1, []int{0}, api.OK},
		{[]api.Frac{of(0, 1), of(1, 4), of(1, 6)}, 12, []int{0, 3, 2}, api.OK},
		{[]api.Frac{of(2, 1), of(4, 1)}, 1, []int{2, 4}, api.OK},
		{[]api.Frac{of(least, 1), of(greatest, 1)}, 1, []int{least, greatest}, api.OK},
		{[]api.Frac{of(least/2, 1), of(1, 2)}, 2, []int{least, 1}, api.OK},
		{[]api.Frac{of(1, greatest), of(-1, greatest)}, greatest, []int{1, -1}, api.OK},
		{[]api.Frac{of(1, 4294967296), of(1, 4294967295)}, 0, nil, api.ErrBig},
		{[]api.Frac{of(greatest, 1), of(1, 2)}, 0, nil, api.ErrBig},
		{[]api.Frac{of(1, 2), of(least, 1)}, 0, nil, api.ErrBig},
		{[]api.Frac{of(0, 1), of(1, 4294967296), of(1, 4294967295)}, 0, nil, api.ErrBig},
		{[]api.Frac{of(1, 2), of(2, 4)}, 0, nil, api.ErrArg},
		{[]api.Frac{of(1, 0)}, 0, nil, api.ErrArg},
		{[]api.Frac{of(0, 2), of(1, 2)}, 0, nil, api.ErrArg},
		{[]api.Frac{of(1, 4294967296), of(1, 4294967295), of(1, -1)}, 0, nil, api.ErrArg},
	} {
		factor, wholes, e := frac.Scale(x.fs...)
		if factor != x.factor || !slices.Equal(wholes, x.wholes) || e != x.e {
			t.Errorf("%v: %d %v %v", x.fs, factor, wholes, e)
		}
	}
}

// scaledWidely is what P2.6 asks for of fractions in lowest terms.
func scaledWidely(fs ...api.Frac) (int, []int, api.Errno) {
	factor := big.NewInt(1)
	for _, f := range fs {
		d := big.NewInt(int64(f.Den))
		g := new(big.Int).GCD(nil, nil, factor, d)
		factor.Mul(factor, d).Quo(factor, g)
	}
	if !factor.IsInt64() {
		return 0, nil, api.ErrBig
	}
	var wholes []int
	for _, f := range fs {
		w := new(big.Rat).Mul(wide(f), new(big.Rat).SetInt(factor))
		if !w.Num().IsInt64() {
			return 0, nil, api.ErrBig
		}
		wholes = append(wholes, int(w.Num().Int64()))
	}
	return int(factor.Int64()), wholes, api.OK
}

func TestScaleAtAllEdges(t *testing.T) {
	all := lowest()
	for _, a := range all {
		for _, b := range all {
			factor, wholes, e := frac.Scale(a, b)
			k, l, want := scaledWidely(a, b)
			if factor != k || !slices.Equal(wholes, l) || e != want {
				t.Fatalf("%v %v: %d %v %v", a, b, factor, wholes, e)
			}
		}
	}
}

// P2.7

// small are all fractions in lowest terms of small numbers.
func small() []api.Frac {
	var all []api.Frac
	for n := -7; n <= 7; n++ {
		for d := 1; d <= 7; d++ {
			if isLowest(of(n, d)) {
				all = append(all, of(n, d))
			}
		}
	}
	return all
}

func TestProductsAreExact(t *testing.T) {
	all := small()
	for _, a := range all {
		for _, b := range all {
			p, e := frac.Mul(a, b, a)
			if e != api.OK || !frac.Valid(p) || p.Num*a.Den*b.Den*a.Den != p.Den*a.Num*b.Num*a.Num {
				t.Fatalf("%v %v %v: %v %v", a, b, a, p, e)
			}
		}
	}
}

func TestAFractionTimesItsInvIsOne(t *testing.T) {
	for _, f := range lowest() {
		inv, e := frac.Inv(f)
		if e != api.OK {
			continue
		}
		if one, e := frac.Mul(f, inv); one != of(1, 1) || e != api.OK {
			t.Errorf("%v times %v: %v %v", f, inv, one, e)
		}
		if back, e := frac.Inv(inv); back != f || e != api.OK {
			t.Errorf("%v there and back: %v %v", f, back, e)
		}
	}
}

func TestCmpIsAnOrder(t *testing.T) {
	all := small()
	slices.SortFunc(all, func(a, b api.Frac) int {
		c, _ := frac.Cmp(a, b)
		return c
	})
	for i, a := range all {
		for j, b := range all {
			want := big.NewInt(int64(i)).Cmp(big.NewInt(int64(j)))
			if c, e := frac.Cmp(a, b); c != want || e != api.OK {
				t.Fatalf("%v and %v: %d %v", a, b, c, e)
			}
		}
	}
}

func TestCmpTurnsRoundByInv(t *testing.T) {
	above := slices.DeleteFunc(lowest(), func(f api.Frac) bool { return f.Num <= 0 })
	for _, a := range above {
		for _, b := range above {
			there, _ := frac.Cmp(a, b)
			aInv, _ := frac.Inv(a)
			bInv, _ := frac.Inv(b)
			if back, e := frac.Cmp(bInv, aInv); back != there || e != api.OK {
				t.Fatalf("%v and %v: %d, turned round %d %v", a, b, there, back, e)
			}
		}
	}
}

func TestWhatMakesAllWholeIsAMultipleOfScale(t *testing.T) {
	all := small()
	for _, a := range all {
		for _, b := range all {
			k, _, _ := frac.Scale(a, b)
			for m := 1; m <= 60; m++ {
				whole := m*a.Num%a.Den == 0 && m*b.Num%b.Den == 0
				if whole != (m%k == 0) {
					t.Fatalf("%v %v: %d makes all whole is %v, but Scale is %d", a, b, m, whole, k)
				}
			}
		}
	}
}

// R2

func TestWhatIsHandedInIsLeft(t *testing.T) {
	row := []api.Frac{of(1, 2), of(-2, 3), of(5, 1), of(7, 0), of(9, 9)}
	kept := slices.Clone(row)
	part := row[:3]
	for range 2 {
		if p, e := frac.Mul(part...); p != of(-5, 3) || e != api.OK {
			t.Error(p, e)
		}
		if k, l, e := frac.Scale(part...); k != 6 || !slices.Equal(l, []int{3, -4, 30}) || e != api.OK {
			t.Error(k, l, e)
		}
	}
	if !slices.Equal(row, kept) {
		t.Error(row)
	}
}

func TestWhatScaleAnswersIsTheCallersOwn(t *testing.T) {
	fs := []api.Frac{of(1, 2), of(-2, 3)}
	_, first, _ := frac.Scale(fs...)
	first[0], first[1] = 100, 100
	_ = append(first[:1:cap(first)], 100)
	if k, l, e := frac.Scale(fs...); k != 6 || !slices.Equal(l, []int{3, -4}) || e != api.OK {
		t.Error(k, l, e)
	}
	fs[0], fs[1] = of(1, 5), of(1, 7)
	if k, l, e := frac.Scale(of(1, 2), of(-2, 3)); k != 6 || !slices.Equal(l, []int{3, -4}) || e != api.OK {
		t.Error(k, l, e)
	}
}
