// Package num has whole numbers: those that are told when they are too great, and those that go round.
package num

import (
	"math"
	"math/bits"
)

// Add is a and b together; false, if that is too great.
func Add(a, b int64) (int64, bool) {
	sum := a + b
	// A sum that went round lies on the other side of a than b points to.
	if (sum < a) != (b < 0) {
		return 0, false
	}
	return sum, true
}

// Sub is a without b; false, if that is too great.
func Sub(a, b int64) (int64, bool) {
	left := a - b
	if (left > a) != (b < 0) {
		return 0, false
	}
	return left, true
}

// Mul is a times b; false, if that is too great.
func Mul(a, b int64) (int64, bool) {
	high, low := bits.Mul64(size(a), size(b))
	if high != 0 {
		return 0, false
	}
	return signed(low, (a < 0) != (b < 0))
}

// Gcd is the greatest number that divides both; false, if that is too great.
func Gcd(a, b int64) (int64, bool) {
	return signed(commonDivisor(size(a), size(b)), false)
}

// Lcm is the least number above 0 of which both are divisors, 0 if one of them is 0; false, if that is too great.
func Lcm(a, b int64) (int64, bool) {
	if a == 0 || b == 0 {
		return 0, true
	}
	first, second := size(a), size(b)
	high, low := bits.Mul64(first/commonDivisor(first, second), second)
	if high != 0 {
		return 0, false
	}
	return signed(low, false)
}

// Ceil is the least whole number that is not below a by b; false, if b is 0, or that is too great.
func Ceil(a, b int64) (int64, bool) { return beside(a, b, neighbour(1)) }

// Floor is the greatest whole number that is not above a by b; false, if b is 0, or that is too great.
func Floor(a, b int64) (int64, bool) { return beside(a, b, neighbour(-1)) }

// Div is a by b, towards 0, gone round; 0, if b is 0.
func Div(a, b int64) int64 {
	whole, _ := divide(a, b)
	return whole
}

// Mod is what Div leaves of a; 0, if b is 0.
func Mod(a, b int64) int64 {
	_, left := divide(a, b)
	return left
}

// divide is a by b, towards 0, gone round, and what is left of a; both are 0, if b is 0.
func divide(a, b int64) (whole, left int64) {
	switch b {
	case 0:
		// Nothing by anything is nothing: from here on it is as if a were 0.
		a = 0
		fallthrough
	case -1:
		// The only quotient that can be too great: -2^63 goes round to itself.
		a = -a
		fallthrough
	case 1:
		return a, 0
	default:
		return a / b, a % b
	}
}

// beside is the whole number next to a by b that choose tells of the quotient towards 0 and of the side of it on which a by b lies.
func beside(a, b int64, choose func(whole, side int64) int64) (int64, bool) {
	if b == 0 || a == math.MinInt64 && b == -1 {
		return 0, false
	}
	whole, left := divide(a, b)
	return choose(whole, sideOf(left, b)), true
}

// neighbour makes what tells the whole number next to a quotient: the one above it, if wanted is 1, the one below it, if wanted is -1.
func neighbour(wanted int64) func(whole, side int64) int64 {
	return func(whole, side int64) int64 {
		if side != wanted {
			return whole
		}
		// Never too great: something is left only by divisors of 2 and more, which leave room.
		return whole + wanted
	}
}

// sideOf is on which side of its whole part a quotient lies: 1 above, -1 below, 0 if nothing is left.
func sideOf(left, b int64) int64 {
	switch {
	case left == 0:
		return 0
	case (left < 0) != (b < 0):
		return -1
	default:
		return 1
	}
}

// size is a without its sign: it needs a bit more than int64 has, for -2^63.
func size(a int64) uint64 {
	if a < 0 {
		return -uint64(a)
	}
	return uint64(a)
}

// signed is the number of that amount and sign; false, if it is too great.
func signed(amount uint64, below bool) (int64, bool) {
	switch {
	case below && amount <= 1<<63:
		return int64(-amount), true
	case !below && amount < 1<<63:
		return int64(amount), true
	default:
		return 0, false
	}
}

// commonDivisor is the greatest number that divides both, that of 0 and a number the number.
func commonDivisor(a, b uint64) uint64 {
	for b != 0 {
		a, b = b, a%b
	}
	return a
}
