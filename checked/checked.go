// Package checked is layer 1: see shared/doc/01-checked.md.
package checked

import (
	"spigot/api"
)

// Add is a sum.
func Add(a, b int) (int, api.Errno) {
	return answer(narrow(plus(widen(a), widen(b))))
}

// Sub is a difference.
func Sub(a, b int) (int, api.Errno) {
	return answer(narrow(plus(widen(a), minus(widen(b)))))
}

// Neg is a number turned about 0.
func Neg(a int) (int, api.Errno) {
	return answer(narrow(minus(widen(a))))
}

// Mul is a product.
func Mul(a, b int) (int, api.Errno) {
	return answer(narrow(times(a, b)))
}

// Down is the greatest whole number not above a product by a number.
func Down(a, b, c int) (int, api.Errno) {
	return answer(fraction(a, b, c, false))
}

// Up is the least whole number not below a product by a number.
func Up(a, b, c int) (int, api.Errno) {
	return answer(fraction(a, b, c, true))
}

// Sum is the sum of a list.
func Sum(list []int) (int, api.Errno) {
	return answer(total(anything(list)))
}

// Less says whether one product is below another one.
func Less(a, b, c, d int) bool {
	return below(times(a, b), times(c, d))
}
