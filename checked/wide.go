package checked

import (
	"math/bits"
)

// wide is a whole number of 128 bits in two's complement, the high word first. Nothing that this package makes leaves it: a product of two numbers is at most 2^126, and to leave it by sums would take 2^64 numbers.
type wide [2]uint64

// widen has the sign in all bits of the high word.
func widen(n int) wide {
	return wide{uint64(n >> 63), uint64(n)}
}

func plus(v, w wide) wide {
	low, carry := bits.Add64(v[1], w[1], 0)
	high, _ := bits.Add64(v[0], w[0], carry)
	return wide{high, low}
}

func minus(w wide) wide {
	return plus(wide{^w[0], ^w[1]}, widen(1))
}

func negative(w wide) bool {
	return int64(w[0]) < 0
}

// size is how far a number is from 0. It is unsigned, for that of -2^63 is no int.
func size(n int) uint64 {
	if n < 0 {
		return -uint64(n)
	}
	return uint64(n)
}

func times(a, b int) wide {
	high, low := bits.Mul64(size(a), size(b))
	if (a < 0) != (b < 0) {
		return minus(wide{high, low})
	}
	return wide{high, low}
}

// divide is of a number that is not below 0. The high word goes first, so that what it leaves is below c, as Div64 must have it.
func divide(w wide, c uint64) (quotient wide, rest uint64) {
	low, rest := bits.Div64(w[0]%c, w[1], c)
	return wide{w[0] / c, low}, rest
}

func below(v, w wide) bool {
	if v[0] != w[0] {
		return int64(v[0]) < int64(w[0])
	}
	return v[1] < w[1]
}
