package sum

import (
	"spigot/api"
)

// digits are a number's digits with noughts ahead: as many as the greatest length has, which is more than a sum has.
type digits [4]byte

func write(n int) digits {
	var d digits
	for i := range d {
		// From the last digit to the first one, for the last is what the number leaves over.
		d[len(d)-1-i] = byte('0' + n%10)
		n /= 10
	}
	return d
}

// noughts is how many are ahead.
func noughts(d digits) int {
	for at, c := range d {
		if c != '0' {
			return at
		}
	}
	return len(d)
}

// read is the number, at most so great, that a text's digits say.
func read(s string, most int) (int, api.Errno) {
	n := 0
	for at := range len(s) {
		c := s[at]
		if c < '0' || c > '9' {
			return 0, api.ErrForm
		}
		n = 10*n + int(c-'0')
		// Looked at digit by digit: so the number never leaves an int, however many there are.
		if n > most {
			return 0, api.ErrForm
		}
	}
	return n, api.OK
}
