package body

import (
	"math"
	"strings"

	"spigot/api"
)

const comma = "," // between two numbers

// Number is the number of a text.
func Number(s string) (int, api.Errno) {
	if s == "" || s[0] == '0' && len(s) > 1 {
		return 0, api.ErrForm
	}
	n := 0
	for at := range len(s) {
		c := s[at]
		if c < '0' || c > '9' {
			return 0, api.ErrForm
		}
		digit := int(c - '0')
		// Looked at ahead of the product: so the number never leaves an int, however many digits there are.
		if n > (math.MaxInt-digit)/10 {
			return 0, api.ErrForm
		}
		n = 10*n + digit
	}
	return n, api.OK
}

// Numbers is the numbers of a text.
func Numbers(s string) ([]int, api.Errno) {
	var list []int
	for more := true; more; {
		var digits string
		digits, s, more = strings.Cut(s, comma)
		n, e := Number(digits)
		if e != api.OK {
			return nil, e
		}
		list = append(list, n)
	}
	return list, api.OK
}

// within is ErrArg, if one of the numbers is not from low to high.
func within(low, high int, list ...int) api.Errno {
	for _, n := range list {
		if n < low || n > high {
			return api.ErrArg
		}
	}
	return api.OK
}
