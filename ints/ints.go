// Package ints is layer 1: whole numbers that are checked. See shared/doc/01-ints.md.
package ints

const (
	least    = -1 << 63
	greatest = 1<<63 - 1
)

// Add is a + b, if it fits.
func Add(a, b int) (int, bool) {
	if b > 0 && a > greatest-b || b < 0 && a < least-b {
		return 0, false
	}
	return a + b, true
}

// Sub is a - b, if it fits.
func Sub(a, b int) (int, bool) {
	if b > 0 && a < least+b || b < 0 && a > greatest+b {
		return 0, false
	}
	return a - b, true
}

// Mul is a * b, if it fits.
func Mul(a, b int) (int, bool) {
	if b == 0 {
		return 0, true
	}
	// The least number times -1 wraps round to itself, and so does its quotient by -1: dividing back would not show it.
	if b == -1 {
		return Sub(0, a)
	}
	product := a * b
	if product/b != a {
		return 0, false
	}
	return product, true
}

// Sum adds up, from the first one on.
func Sum(xs ...int) (int, bool) {
	sum, fits := 0, true
	for _, x := range xs {
		if sum, fits = Add(sum, x); !fits {
			return 0, false
		}
	}
	return sum, true
}

// Gcd is the greatest common divisor.
func Gcd(xs ...int) (int, bool) {
	divisor := 0
	for _, x := range xs {
		divisor = common(divisor, x)
	}
	return absolute(divisor)
}

// Lcm is the least common multiple.
func Lcm(xs ...int) (int, bool) {
	// A 0 outweighs numbers ahead of it whose multiple does not fit, so it is looked for first.
	if hasZero(xs) {
		return 0, true
	}
	multiple := 1
	for _, x := range xs {
		size, fits := absolute(x)
		if !fits {
			return 0, false
		}
		// Divided ahead of the product: what does not fit then is the multiple itself, which later numbers can't make less.
		if multiple, fits = Mul(multiple/common(size, multiple), size); !fits {
			return 0, false
		}
	}
	return multiple, true
}

// Dot adds up the products, from the first one on.
func Dot(a, b []int) (int, bool) {
	if len(a) != len(b) {
		return 0, false
	}
	sum := 0
	for i, x := range a {
		product, fits := Mul(x, b[i])
		if !fits {
			return 0, false
		}
		if sum, fits = Add(sum, product); !fits {
			return 0, false
		}
	}
	return sum, true
}

// common is a greatest common divisor of two numbers, of either sign: the sign stays open so that the least number, which has no negative, can be gone through too.
func common(a, b int) int {
	for b != 0 {
		a, b = b, a%b
	}
	return a
}

// absolute is a number without its sign, if that fits.
func absolute(x int) (int, bool) {
	if x < 0 {
		return Sub(0, x)
	}
	return x, true
}

func hasZero(xs []int) bool {
	for _, x := range xs {
		if x == 0 {
			return true
		}
	}
	return false
}
