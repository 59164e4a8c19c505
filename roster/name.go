package roster

import (
	"unicode/utf8"

	"spigot/api"
)

// Valid says whether a text is a name.
func Valid(name string) bool {
	runes := 0
	for _, c := range name {
		runes++
		if runes > api.MaxName || barred(c) {
			return false
		}
	}
	return runes > 0
}

// barred says whether a rune may not be in a name. A byte that is out of place is met as utf8.RuneError by a range, and so it is barred with it.
func barred(c rune) bool {
	return c < '!' || c == 127 || c == '=' || c == utf8.RuneError
}
