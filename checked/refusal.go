package checked

import (
	"spigot/api"
)

// refusal stands where a number would, and tells why there is none.
type refusal api.Errno

// narrow is the number itself, or, if it has no room in an int, a refusal.
func narrow(w wide) any {
	n := int(w[1])
	if widen(n) != w {
		return refusal(api.ErrOver)
	}
	return n
}

// fraction is a · b / c, brought on a whole number up or down.
func fraction(a, b, c int, up bool) any {
	if c == 0 {
		return refusal(api.ErrZero)
	}
	product := times(a, b)
	under := negative(product) != (c < 0)
	if negative(product) {
		product = minus(product)
	}
	quotient, rest := divide(product, size(c))
	toward := 1
	if under {
		quotient, toward = minus(quotient), -1
	}
	// What was cut off lies farther from 0: it counts only where that is the way to go.
	if rest != 0 && under != up {
		quotient = plus(quotient, widen(toward))
	}
	return narrow(quotient)
}

func anything(list []int) []any {
	all := make([]any, len(list))
	for i, n := range list {
		all[i] = n
	}
	return all
}

// total is narrowed once, at the end: what the sums on the way are doesn't matter.
func total(list []any) any {
	sum := widen(0)
	for _, x := range list {
		if n, ok := x.(int); ok {
			sum = plus(sum, widen(n))
		}
	}
	return narrow(sum)
}

func answer(x any) (int, api.Errno) {
	if why, ok := x.(refusal); ok {
		return 0, api.Errno(why)
	}
	n, _ := x.(int)
	return n, api.OK
}
