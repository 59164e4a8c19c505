package roster_test

import (
	"strings"
	"testing"
	"unicode/utf8"

	"spigot/api"
	"spigot/roster"
)

// names are such texts as are names, of any length and of runes of one to four bytes.
func names() []string {
	return []string{
		"a", "!", "~", "<", ">", "0", "\u0080", "é", "€", "😀", "\U0010ffff", "\ufffc", "\ufffe", "\uffff", "\ud7ff", "\ue000",
		"a!", "!~", "a<b", "a>b", "A|b;\"\\'", "\u0080\u009f\u00a0", "\u2028\u3000", "\u200b", "é€😀a",
		strings.Repeat("a", api.MaxName-1), strings.Repeat("a", api.MaxName),
		strings.Repeat("\u0080", api.MaxName), strings.Repeat("é", api.MaxName), strings.Repeat("€", api.MaxName),
		strings.Repeat("😀", api.MaxName), strings.Repeat("\U0010ffff", api.MaxName), strings.Repeat("aé€😀", api.MaxName/4),
	}
}

// barredTexts may not be in a name, wherever they are: runes that are barred, and bytes that are out of place.
func barredTexts() []string {
	return []string{
		" ", "=", "\x00", "\x01", "\t", "\n", "\r", "\x1f", "\x7f", "\ufffd",
		// Ends without a beginning, beginnings without an end, bytes that are never met.
		"\x80", "\xbf", "\xc3", "\xe2", "\xe2\x82", "\xf0", "\xf0\x9f\x98", "\xc0", "\xc1", "\xf5", "\xfe", "\xff", "\x80\x80",
		// Written longer than they must be, halves of pairs, past the last rune.
		"\xc0\x80", "\xc1\xa1", "\xe0\x81\xa1", "\xf0\x80\x81\xa1", "\xed\xa0\x80", "\xed\xbf\xbf", "\xf4\x90\x80\x80",
	}
}

// others are texts that are no names.
func others() []string {
	long := api.MaxName + 1
	list := []string{
		"", "a b", "a=b", "=a", "a=", " a", "a ", "==", strings.Repeat("=", api.MaxName),
		strings.Repeat("a", long), strings.Repeat("é", long), strings.Repeat("€", long), strings.Repeat("😀", long),
		strings.Repeat("a", api.MaxName) + "é", strings.Repeat("😀", api.MaxName) + "a", "é" + strings.Repeat("a", api.MaxName),
		strings.Repeat("a", api.MaxName) + "\xff", strings.Repeat("a", 1<<16), strings.Repeat("\xff", 1<<16),
	}
	full := strings.Repeat("a", api.MaxName-1)
	for _, s := range barredTexts() {
		list = append(list, s, s+"a", "a"+s, "a"+s+"b", "é"+s+"😀", s+full, full+s)
	}
	return list
}

// P4.1.
func TestValid(t *testing.T) {
	for _, s := range names() {
		if !roster.Valid(s) {
			t.Errorf("Valid(%q): false", s)
		}
	}
	for _, s := range others() {
		if roster.Valid(s) {
			t.Errorf("Valid(%q): true", s)
		}
	}
}

// P4.1, of each rune that there is: alone, at either end, and between.
func TestEachRune(t *testing.T) {
	for c := range rune(utf8.MaxRune + 1) {
		s, asked := string(c), true
		switch {
		case c <= 32, c == 127, c == 61, c == 65533:
			asked = false
		case c >= 0xd800 && c <= 0xdfff:
			// A half of a pair becomes the rune 65533.
			asked = false
		}
		for _, text := range []string{s, s + "b", "a" + s, "a" + s + "b"} {
			if roster.Valid(text) != asked {
				t.Fatalf("Valid(%q), the rune %d: %v", text, c, !asked)
			}
		}
	}
}

// P4.1, of each two bytes: only what is two runes of one byte, or one of two, is a name.
func TestEachTwoBytes(t *testing.T) {
	for i := range 1 << 16 {
		first, second := byte(i>>8), byte(i)
		s := string([]byte{first, second})
		plain := func(b byte) bool { return b >= 33 && b <= 126 && b != 61 }
		asked := plain(first) && plain(second) || first >= 0xc2 && first <= 0xdf && second >= 0x80 && second <= 0xbf
		if roster.Valid(s) != asked {
			t.Fatalf("Valid(%q): %v", s, !asked)
		}
	}
}

// P4.1, of lengths: runes are counted, not bytes.
func TestLengths(t *testing.T) {
	for _, c := range []string{"a", "é", "€", "😀"} {
		for n := range 3*api.MaxName + 1 {
			if asked := n >= 1 && n <= 20; roster.Valid(strings.Repeat(c, n)) != asked {
				t.Errorf("Valid of %d times %q: %v", n, c, !asked)
			}
		}
	}
}
