package ints_test

import (
	"math/big"
	"slices"
	"testing"

	"pianola/ints"
)

const (
	least    = -9223372036854775808
	greatest = 9223372036854775807
)

// edges are numbers at which the promises turn: both ends, the halves, the roots, and those about 0.
func edges() []int {
	return []int{
		least, least + 1, least + 2, least / 2, least/2 - 1, -4294967296, -3037000500, -3037000499, -12, -7, -5, -3, -2, -1, 0,
		1, 2, 3, 4, 6, 10, 35, 2147483648, 3037000499, 3037000500, 4294967295, 4294967296, greatest / 2, greatest/2 + 1, greatest - 1, greatest,
	}
}

// rows are all rows of up to three edges.
func rows() [][]int {
	all := [][]int{nil}
	for _, a := range edges() {
		all = append(all, []int{a})
		for _, b := range edges() {
			all = append(all, []int{a, b})
			for _, c := range edges() {
				all = append(all, []int{a, b, c})
			}
		}
	}
	return all
}

type answer struct {
	number int
	fits   bool
}

func told(number int, fits bool) answer { return answer{number, fits} }

// rightly is what the promises ask for where the number is n.
func rightly(n *big.Int) answer {
	if !n.IsInt64() {
		return answer{}
	}
	return answer{int(n.Int64()), true}
}

func wide(x int) *big.Int { return big.NewInt(int64(x)) }

type example struct {
	call      string
	got, want answer
}

func check(t *testing.T, examples []example) {
	t.Helper()
	for _, e := range examples {
		if e.got != e.want {
			t.Errorf("%s: %v, not %v", e.call, e.got, e.want)
		}
	}
}

// P1.1

func TestAddSubMulExamples(t *testing.T) {
	no := answer{}
	check(t, []example{
		{"2 + 3", told(ints.Add(2, 3)), answer{5, true}},
		{"greatest + 1", told(ints.Add(greatest, 1)), no},
		{"-1 + least", told(ints.Add(-1, least)), no},
		{"least + least", told(ints.Add(least, least)), no},
		{"greatest + least", told(ints.Add(greatest, least)), answer{-1, true}},
		{"0 - least", told(ints.Sub(0, least)), no},
		{"-1 - least", told(ints.Sub(-1, least)), answer{greatest, true}},
		{"least - least", told(ints.Sub(least, least)), answer{0, true}},
		{"least - 1", told(ints.Sub(least, 1)), no},
		{"-1 * least", told(ints.Mul(-1, least)), no},
		{"least * -1", told(ints.Mul(least, -1)), no},
		{"1 * least", told(ints.Mul(1, least)), answer{least, true}},
		{"0 * least", told(ints.Mul(0, least)), answer{0, true}},
		{"least * 0", told(ints.Mul(least, 0)), answer{0, true}},
		{"3037000500 squared", told(ints.Mul(3037000500, 3037000500)), no},
		{"3037000499 squared", told(ints.Mul(3037000499, 3037000499)), answer{9223372030926249001, true}},
		{"2^32 * -2^31", told(ints.Mul(4294967296, -2147483648)), answer{least, true}},
		{"2^32 * 2^31", told(ints.Mul(4294967296, 2147483648)), no},
		{"2^32 * 2^32", told(ints.Mul(4294967296, 4294967296)), no},
	})
}

func TestAddSubMulAtTheEdges(t *testing.T) {
	for _, a := range edges() {
		for _, b := range edges() {
			if got, want := told(ints.Add(a, b)), rightly(new(big.Int).Add(wide(a), wide(b))); got != want {
				t.Errorf("Add(%d, %d): %v, not %v", a, b, got, want)
			}
			if got, want := told(ints.Sub(a, b)), rightly(new(big.Int).Sub(wide(a), wide(b))); got != want {
				t.Errorf("Sub(%d, %d): %v, not %v", a, b, got, want)
			}
			if got, want := told(ints.Mul(a, b)), rightly(new(big.Int).Mul(wide(a), wide(b))); got != want {
				t.Errorf("Mul(%d, %d): %v, not %v", a, b, got, want)
			}
		}
	}
}

// P1.2

func TestSumExamples(t *testing.T) {
	no := answer{}
	check(t, []example{
		{"none", told(ints.Sum()), answer{0, true}},
		{"one", told(ints.Sum(least)), answer{least, true}},
		{"many", told(ints.Sum(1, -2, 3, -4, 50)), answer{48, true}},
		{"above on the way", told(ints.Sum(greatest, 1, -1)), no},
		{"below on the way", told(ints.Sum(least, -1, 1)), no},
		{"above at the last", told(ints.Sum(1, 1, greatest)), no},
		{"up to the greatest", told(ints.Sum(greatest, -1, 1)), answer{greatest, true}},
		{"both ends", told(ints.Sum(least, greatest, greatest)), answer{greatest - 1, true}},
	})
}

// wideSum adds from the left to the right, and tells no number once a sum on the way does not fit.
func wideSum(xs []*big.Int) answer {
	sum := new(big.Int)
	for _, x := range xs {
		if sum.Add(sum, x); !sum.IsInt64() {
			return answer{}
		}
	}
	return rightly(sum)
}

func TestSumAtTheEdges(t *testing.T) {
	for _, row := range rows() {
		var xs []*big.Int
		for _, x := range row {
			xs = append(xs, wide(x))
		}
		if got, want := told(ints.Sum(row...)), wideSum(xs); got != want {
			t.Errorf("Sum(%v): %v, not %v", row, got, want)
		}
	}
}

// P1.3

func TestGcdExamples(t *testing.T) {
	no := answer{}
	check(t, []example{
		{"12 -18", told(ints.Gcd(12, -18)), answer{6, true}},
		{"none", told(ints.Gcd()), answer{0, true}},
		{"0", told(ints.Gcd(0)), answer{0, true}},
		{"0 0", told(ints.Gcd(0, 0)), answer{0, true}},
		{"0 -5", told(ints.Gcd(0, -5)), answer{5, true}},
		{"-5", told(ints.Gcd(-5)), answer{5, true}},
		{"35 21 14", told(ints.Gcd(35, 21, 14)), answer{7, true}},
		{"least", told(ints.Gcd(least)), no},
		{"least 0", told(ints.Gcd(least, 0)), no},
		{"0 least", told(ints.Gcd(0, least)), no},
		{"least 0 least", told(ints.Gcd(least, 0, least)), no},
		{"least 6", told(ints.Gcd(least, 6)), answer{2, true}},
		{"least least 1", told(ints.Gcd(least, least, 1)), answer{1, true}},
		{"least -1", told(ints.Gcd(least, -1)), answer{1, true}},
		{"-1 least", told(ints.Gcd(-1, least)), answer{1, true}},
		{"least least / 2", told(ints.Gcd(least, least/2)), answer{4611686018427387904, true}},
	})
}

func TestGcdAtTheEdges(t *testing.T) {
	for _, row := range rows() {
		divisor := new(big.Int)
		for _, x := range row {
			divisor.GCD(nil, nil, divisor, new(big.Int).Abs(wide(x)))
		}
		if got, want := told(ints.Gcd(row...)), rightly(divisor); got != want {
			t.Errorf("Gcd(%v): %v, not %v", row, got, want)
		}
	}
}

// P1.4

func TestLcmExamples(t *testing.T) {
	no := answer{}
	check(t, []example{
		{"4 -6", told(ints.Lcm(4, -6)), answer{12, true}},
		{"none", told(ints.Lcm()), answer{1, true}},
		{"-5", told(ints.Lcm(-5)), answer{5, true}},
		{"4 6 10", told(ints.Lcm(4, 6, 10)), answer{60, true}},
		{"0", told(ints.Lcm(0)), answer{0, true}},
		{"a 0 behind what does not fit", told(ints.Lcm(4294967296, 4294967295, 0)), answer{0, true}},
		{"a 0 ahead of what does not fit", told(ints.Lcm(0, 4294967296, 4294967295)), answer{0, true}},
		{"a 0 between", told(ints.Lcm(4294967296, 0, 4294967295)), answer{0, true}},
		{"least 0", told(ints.Lcm(least, 0)), answer{0, true}},
		{"0 least", told(ints.Lcm(0, least)), answer{0, true}},
		{"beyond", told(ints.Lcm(4294967296, 4294967295)), no},
		{"least", told(ints.Lcm(least)), no},
		{"least -1", told(ints.Lcm(least, -1)), no},
		{"2^62 3", told(ints.Lcm(4611686018427387904, 3)), no},
		{"greatest", told(ints.Lcm(greatest, -1, -greatest)), answer{greatest, true}},
		{"a product that is divided first", told(ints.Lcm(4611686018427387904, -4611686018427387904, 1024)), answer{4611686018427387904, true}},
	})
}

func wideLcm(row []int) *big.Int {
	multiple := wide(1)
	for _, x := range row {
		if x == 0 {
			return new(big.Int)
		}
		size := new(big.Int).Abs(wide(x))
		divisor := new(big.Int).GCD(nil, nil, multiple, size)
		multiple.Mul(multiple, size).Div(multiple, divisor)
	}
	return multiple
}

func TestLcmAtTheEdges(t *testing.T) {
	for _, row := range rows() {
		if got, want := told(ints.Lcm(row...)), rightly(wideLcm(row)); got != want {
			t.Errorf("Lcm(%v): %v, not %v", row, got, want)
		}
	}
}

func divides(d, n int) bool {
	if d == 0 {
		return n == 0
	}
	return n%d == 0
}

// TestGcdLcmBySearch holds them against the words of the promises: the first number, from one end, that divides or is divided.
func TestGcdLcmBySearch(t *testing.T) {
	for a := -12; a <= 12; a++ {
		for b := -12; b <= 12; b++ {
			divisor := 12
			for divisor > 0 && !(divides(divisor, a) && divides(divisor, b)) {
				divisor--
			}
			if a == 0 && b == 0 {
				divisor = 0
			}
			if got := told(ints.Gcd(a, b)); got != (answer{divisor, true}) {
				t.Errorf("Gcd(%d, %d): %v, not %d", a, b, got, divisor)
			}
			multiple := 1
			for a != 0 && b != 0 && !(divides(a, multiple) && divides(b, multiple)) {
				multiple++
			}
			if a == 0 || b == 0 {
				multiple = 0
			}
			if got := told(ints.Lcm(a, b)); got != (answer{multiple, true}) {
				t.Errorf("Lcm(%d, %d): %v, not %d", a, b, got, multiple)
			}
		}
	}
}

// P1.5

func TestDotExamples(t *testing.T) {
	no := answer{}
	check(t, []example{
		{"1 2, 3 4", told(ints.Dot([]int{1, 2}, []int{3, 4})), answer{11, true}},
		{"nil, nil", told(ints.Dot(nil, nil)), answer{0, true}},
		{"nil, empty", told(ints.Dot(nil, []int{})), answer{0, true}},
		{"the first one is shorter", told(ints.Dot([]int{1}, []int{1, 2})), no},
		{"the second one is shorter", told(ints.Dot([]int{1, 2}, []int{1})), no},
		{"nil and a 0", told(ints.Dot(nil, []int{0})), no},
		{"a product does not fit", told(ints.Dot([]int{2, -1}, []int{greatest, 5})), no},
		{"a product does not fit, and would be brought back", told(ints.Dot([]int{2, -2}, []int{greatest, greatest})), no},
		{"a sum on the way does not fit", told(ints.Dot([]int{1, 1, -1}, []int{greatest, 1, 1})), no},
		{"the same, in an order that fits", told(ints.Dot([]int{1, -1, 1}, []int{greatest, 1, 1})), answer{greatest, true}},
		{"least * -1", told(ints.Dot([]int{least, -1}, []int{-1, 1})), no},
		{"to the least", told(ints.Dot([]int{4294967296, 5}, []int{-2147483648, 0})), answer{least, true}},
	})
}

func wideDot(a, b []int) answer {
	var products []*big.Int
	for i := range a {
		product := new(big.Int).Mul(wide(a[i]), wide(b[i]))
		if !product.IsInt64() {
			return answer{}
		}
		products = append(products, product)
	}
	return wideSum(products)
}

func TestDotAtTheEdges(t *testing.T) {
	var short [][]int
	for _, row := range rows() {
		if len(row) <= 2 {
			short = append(short, row)
		}
	}
	for _, a := range short {
		for _, b := range short {
			want := answer{}
			if len(a) == len(b) {
				want = wideDot(a, b)
			}
			if got := told(ints.Dot(a, b)); got != want {
				t.Errorf("Dot(%v, %v): %v, not %v", a, b, got, want)
			}
		}
	}
}

// P1.6

func TestAddSubMulGoBack(t *testing.T) {
	for _, a := range edges() {
		for _, b := range edges() {
			if sum, fits := ints.Add(a, b); fits && told(ints.Sub(sum, b)) != (answer{a, true}) {
				t.Errorf("%d + %d does not go back", a, b)
			}
			if product, fits := ints.Mul(a, b); fits && b != 0 && (product/b != a || product%b != 0) {
				t.Errorf("%d * %d does not go back", a, b)
			}
		}
	}
}

func TestCommonDivisorsAndMultiples(t *testing.T) {
	for _, row := range rows() {
		divisor, divisorFits := ints.Gcd(row...)
		multiple, multipleFits := ints.Lcm(row...)
		for d := -70; d <= 70; d++ {
			dividesAll, dividedByAll := true, true
			for _, x := range row {
				dividesAll = dividesAll && divides(d, x)
				dividedByAll = dividedByAll && divides(x, d)
			}
			if divisorFits && dividesAll && !divides(d, divisor) {
				t.Errorf("%d divides all of %v, and not %d", d, row, divisor)
			}
			if multipleFits && dividedByAll && !divides(multiple, d) {
				t.Errorf("all of %v divide %d, and %d does not", row, d, multiple)
			}
		}
	}
}

func TestOrderAndSignsDoNotCount(t *testing.T) {
	for _, row := range rows() {
		turned := slices.Clone(row)
		slices.Reverse(turned)
		flipped := slices.Clone(row)
		for i := range flipped {
			flipped[i] = -flipped[i] // the least one stays what it is
		}
		divisor, multiple := told(ints.Gcd(row...)), told(ints.Lcm(row...))
		for _, other := range [][]int{turned, flipped} {
			if got := told(ints.Gcd(other...)); got != divisor {
				t.Errorf("Gcd(%v): %v, and Gcd(%v): %v", row, divisor, other, got)
			}
			if got := told(ints.Lcm(other...)); got != multiple {
				t.Errorf("Lcm(%v): %v, and Lcm(%v): %v", row, multiple, other, got)
			}
		}
	}
}

func TestTwoRowsInOne(t *testing.T) {
	for _, row := range rows() {
		for cut := range len(row) + 1 {
			first, firstFits := ints.Gcd(row[:cut]...)
			second, secondFits := ints.Gcd(row[cut:]...)
			if got := told(ints.Gcd(first, second)); firstFits && secondFits && got != told(ints.Gcd(row...)) {
				t.Errorf("Gcd of %v, cut at %d: %v", row, cut, got)
			}
			first, firstFits = ints.Lcm(row[:cut]...)
			second, secondFits = ints.Lcm(row[cut:]...)
			if got := told(ints.Lcm(first, second)); firstFits && secondFits && got != told(ints.Lcm(row...)) {
				t.Errorf("Lcm of %v, cut at %d: %v", row, cut, got)
			}
		}
	}
}

func TestGcdTimesLcm(t *testing.T) {
	for _, a := range edges() {
		for _, b := range edges() {
			divisor, divisorFits := ints.Gcd(a, b)
			multiple, multipleFits := ints.Lcm(a, b)
			if !divisorFits || !multipleFits {
				continue
			}
			product := new(big.Int).Mul(wide(a), wide(b))
			if new(big.Int).Mul(wide(divisor), wide(multiple)).CmpAbs(product) != 0 {
				t.Errorf("Gcd %d times Lcm %d is not %d times %d", divisor, multiple, a, b)
			}
		}
	}
}

// R2

func TestWhatIsHandedInIsLeft(t *testing.T) {
	for _, row := range rows() {
		room := append(slices.Clone(row), 77, 78)
		kept := slices.Clone(room)
		list := room[:len(row)]
		ints.Sum(list...)
		ints.Gcd(list...)
		ints.Lcm(list...)
		ints.Dot(list, list)
		if !slices.Equal(room, kept) {
			t.Errorf("%v has become %v", kept, room)
		}
	}
}

func TestSpareRoomIsNotRead(t *testing.T) {
	room := []int{4, 6, 0, greatest, 1}
	list := room[:2]
	check(t, []example{
		{"Sum", told(ints.Sum(list...)), answer{10, true}},
		{"Gcd", told(ints.Gcd(list...)), answer{2, true}},
		{"Lcm", told(ints.Lcm(list...)), answer{12, true}},
		{"Dot", told(ints.Dot(list, []int{1, 2})), answer{16, true}},
		{"Dot of unlike lengths", told(ints.Dot(list, []int{1, 2, 3})), answer{}},
	})
}
