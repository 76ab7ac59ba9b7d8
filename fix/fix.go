// Package fix has whole numbers of 64 bits whose sums and products are
// checked: layer 1, see shared/doc/01-fix.md.
package fix

import (
	"math"
	"math/bits"
)

// Add is a checked sum.
func Add(a, b int) (int, bool) {
	sum := a + b
	// Only numbers of one sign can go past an end, and then the sign turns.
	if (a < 0) == (b < 0) && (sum < 0) != (a < 0) {
		return 0, false
	}
	return sum, true
}

// Sub is a checked difference.
func Sub(a, b int) (int, bool) {
	less := a - b
	if (a < 0) != (b < 0) && (less < 0) != (a < 0) {
		return 0, false
	}
	return less, true
}

// Mul is a checked product.
func Mul(a, b int) (int, bool) {
	if a == 0 || b == 0 {
		return 0, true
	}
	product := a * b
	below := (a < 0) != (b < 0)
	// The sign is asked too, because -2^63 by -1 goes round to itself, both
	// when it is multiplied and when it is divided.
	if (product < 0) != below || product/b != a {
		return 0, false
	}
	return product, true
}

// Neg turns a sign.
func Neg(a int) (int, bool) {
	return Sub(0, a)
}

// Abs is a number without its sign.
func Abs(a int) (int, bool) {
	if a < 0 {
		return Neg(a)
	}
	return a, true
}

// Quo is a quotient.
func Quo(a, b int) (int, bool) {
	if b == 0 || a == math.MinInt && b == -1 {
		return 0, false
	}
	return a / b, true
}

// Rem is a remainder.
func Rem(a, b int) (int, bool) {
	if b == 0 {
		return 0, false
	}
	return a % b, true
}

// Mod is a modulus.
func Mod(a, b int) (int, bool) {
	rest, ok := Rem(a, b)
	if rest != 0 && (rest < 0) != (b < 0) {
		rest += b
	}
	return rest, ok
}

// Gcd is the greatest number that divides both.
func Gcd(a, b int) (int, bool) {
	for b != 0 {
		a, b = b, a%b
	}
	// The sign goes last: that of -2^63 may be gone by then.
	return Abs(a)
}

// Pow is a power.
func Pow(a, n int) (int, bool) {
	if n < 0 {
		return 0, false
	}
	power, ok := 1, true
	// From the highest bit on, each number on the way is a power of a that is
	// no higher than the one asked for: if it doesn't fit, that one doesn't.
	for bit := bits.Len(uint(n)) - 1; bit >= 0 && ok; bit-- {
		power, ok = Mul(power, power)
		if ok && n>>bit&1 == 1 {
			power, ok = Mul(power, a)
		}
	}
	return power, ok
}

// Root is the whole part of a square root, and what is left.
func Root(a int) (int, int, bool) {
	if a < 0 {
		return 0, 0, false
	}
	root := 0
	for i := range 32 {
		more := root | 1<<(31-i)
		// Divided, because the square might not fit.
		if more <= a/more {
			root = more
		}
	}
	return root, a - root*root, true
}
