package tag

import (
	"strings"
	"unicode/utf8"

	"spigot/api"
)

const (
	sign = "="    // between a tag and its value
	end  = "\x01" // behind a value: no rune that may be in one
)

// readTag is the tag at the beginning of a text, and where its value begins.
func readTag(s string) (number, begin int, e api.Errno) {
	for at := range len(s) {
		c := s[at]
		if at > 0 && c == sign[0] {
			return number, at + 1, api.OK
		}
		if c < '0' || c > '9' || at == 0 && c == '0' {
			return 0, 0, api.ErrTag
		}
		number = 10*number + int(c-'0')
		// Looked at digit by digit: so the number never leaves an int, however many there are.
		if number > api.MaxTag {
			return 0, 0, api.ErrTag
		}
	}
	return 0, 0, api.ErrOpen
}

// readValue is the value at the beginning of a text, up to its end.
func readValue(s string) (string, api.Errno) {
	n := run(s)
	if n == len(s) {
		return "", api.ErrOpen
	}
	if n == 0 || !strings.HasPrefix(s[n:], end) {
		return "", api.ErrValue
	}
	return s[:n], api.OK
}

// run is how many bytes at the beginning of a text a value may have: up to the first rune that may not be in one, or that is too much.
func run(s string) int {
	n := 0
runes:
	for at, c := range s {
		switch behind := at + utf8.RuneLen(c); {
		case barred(c), behind > api.MaxValue:
			break runes
		default:
			n = behind
		}
	}
	return n
}

// barred says whether a rune may not be in a value. A byte that is out of place is met as utf8.RuneError by a range, and so it is barred with it.
func barred(c rune) bool {
	return c < ' ' || c == 127 || c == utf8.RuneError
}
