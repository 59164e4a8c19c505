package body_test

import (
	"math/big"
	"math/rand/v2"
	"regexp"
	"slices"
	"strconv"
	"strings"
	"testing"

	"spigot/api"
	"spigot/body"
)

const (
	leastInt    = -1 << 63
	greatestInt = 1<<63 - 1
)

// numberForm goes by the chapter's words: decimal digits without a nought ahead, or nought.
var numberForm = regexp.MustCompile(`\A(0|[1-9][0-9]*)\z`)

// numberOf is what the chapter's words say of a text, by numbers of any length.
func numberOf(s string) (int, bool) {
	if !numberForm.MatchString(s) {
		return 0, false
	}
	n, _ := new(big.Int).SetString(s, 10)
	if !n.IsInt64() {
		return 0, false
	}
	return int(n.Int64()), true
}

// numbersOf is what the chapter's words say of a text as numbers.
func numbersOf(s string) ([]int, bool) {
	var list []int
	for _, part := range strings.Split(s, ",") {
		n, ok := numberOf(part)
		if !ok {
			return nil, false
		}
		list = append(list, n)
	}
	return list, true
}

// someNumbers are from 0 to 2^63 - 1, with those beside each power of two and of ten.
func someNumbers() []int {
	list := []int{0, greatestInt - 9, greatestInt - 8, greatestInt - 7, greatestInt - 1, greatestInt}
	for bit := range 63 {
		list = append(list, 1<<bit-1, 1<<bit, 1<<bit+1)
	}
	for n := 1; n <= greatestInt/10; n *= 10 {
		list = append(list, 10*n-1, 10*n, 10*n+1)
	}
	return list
}

// noNumbers are texts that are none; none of them has a comma.
func noNumbers() []string {
	list := []string{
		"", "00", "01", "07", "000", "007", "010", "0123456789", "00000000000000000000", "09223372036854775807",
		"-", "+", "-0", "-1", "-7", "+0", "+1", "1-", "1+", "-9223372036854775808", "−1",
		" ", " 1", "1 ", "1 1", " 1 ", "\t1", "1\n", "\n", "\r1", "1\r\n", "\u00a01", "1\u2009000",
		"x", "x1", "1x", "1x1", "a", "A", "f", "0x1", "0b1", "0o7", "1e3", "1E3", "1.0", "1.", ".1", "1_000", "1'000", "inf", "nan", "nil",
		"9223372036854775808", "9223372036854775809", "9223372036854775810", "9223372036854775817", "9223372036854775900", "9300000000000000000", "9999999999999999999",
		"10000000000000000000", "18446744073709551614", "18446744073709551615", "18446744073709551616", "18446744073709551617", "18446744073709551623", "27670116110564327424", "92233720368547758070", "92233720368547758080",
		"36893488147419103232", "184467440737095516160", "340282366920938463463374607431768211456", "340282366920938463463374607431768211463",
		"٣", "１", "1１", "²", "1²", "½", "Ⅳ", "१", "𝟙", "1\u0301", "\ufeff1",
		"\x00", "1\x00", "\x001", "\x01", "1\x01", "\x7f", "\x80", "\xb1", "\xff", "1\xff", "\xff1", "1\xc3", "\xc0\xb1", "\xef\xbc", "\ufffd",
		"/", ":", "1/", "1:", "/1", ":1", ";", "=", "1=1", "1;2", "1|2", "1，2", "1٬2",
	}
	for _, c := range []string{"0", "1", "9"} {
		for _, digits := range []int{20, 21, 32, 64, 65, 512, 1 << 16, 1 << 20} {
			list = append(list, strings.Repeat(c, digits))
		}
	}
	return append(list, "1"+strings.Repeat("0", 1<<16), strings.Repeat("0", 1<<16)+"1", strings.Repeat("1", 1<<16)+"x")
}

func wantNumber(t *testing.T, s string, n int) {
	t.Helper()
	if got, e := body.Number(s); got != n || e != api.OK {
		t.Fatalf("Number(%.60q): %d, %d; asked for: %d", s, got, e, n)
	}
}

func wantNoNumber(t *testing.T, s string) {
	t.Helper()
	if n, e := body.Number(s); n != 0 || e != api.ErrForm {
		t.Fatalf("Number(%.60q): %d, %d; asked for: %d", s, n, e, api.ErrForm)
	}
}

func wantNumbers(t *testing.T, s string, list ...int) {
	t.Helper()
	if got, e := body.Numbers(s); !slices.Equal(got, list) || e != api.OK {
		t.Fatalf("Numbers(%.60q): %v, %d; asked for: %v", s, got, e, list)
	}
}

func wantNoNumbers(t *testing.T, s string) {
	t.Helper()
	if list, e := body.Numbers(s); len(list) != 0 || e != api.ErrForm {
		t.Fatalf("Numbers(%.60q): %v, %d; asked for: %d", s, list, e, api.ErrForm)
	}
}

// wantBoth holds what is told of a text against the chapter's words.
func wantBoth(t *testing.T, s string) {
	t.Helper()
	if n, ok := numberOf(s); ok {
		wantNumber(t, s, n)
	} else {
		wantNoNumber(t, s)
	}
	if list, ok := numbersOf(s); ok {
		wantNumbers(t, s, list...)
	} else {
		wantNoNumbers(t, s)
	}
}

// texts are numbers as digits.
func texts(list ...int) []string {
	var all []string
	for _, n := range list {
		all = append(all, strconv.Itoa(n))
	}
	return all
}

// P11.1: each number has its digits, and no others.
func TestNumber(t *testing.T) {
	wantNumber(t, "0", 0)
	wantNumber(t, "9", 9)
	wantNumber(t, "10", 10)
	wantNumber(t, "9223372036854775807", 1<<63-1)
	for n := range 20000 {
		wantNumber(t, strconv.Itoa(n), n)
		wantNoNumber(t, "0"+strconv.Itoa(n))
	}
	for _, n := range someNumbers() {
		digits := strconv.Itoa(n)
		wantNumber(t, digits, n)
		for _, other := range []string{"0" + digits, "00" + digits, "-" + digits, "+" + digits, " " + digits, digits + " ", digits + "x", "x" + digits, digits + ".", digits + "\x00", digits + "\xff", digits + "٣", "," + digits, digits + ","} {
			wantNoNumber(t, other)
		}
	}
}

// P11.1: what is no number, alone and as each digit's neighbour.
func TestNoNumber(t *testing.T) {
	for _, s := range noNumbers() {
		wantNoNumber(t, s)
		wantNoNumbers(t, s)
	}
	for _, s := range []string{",", "1,2", "0,0", ",1", "1,", ",,"} {
		wantNoNumber(t, s)
	}
}

// P11.1: numbers past 2^63 - 1, whatever is left of them in 64 bits.
func TestNumberPastTheEnd(t *testing.T) {
	one := big.NewInt(1)
	for bit := uint(63); bit <= 200; bit++ {
		power := new(big.Int).Lsh(one, bit)
		for _, more := range []int64{0, 1, 2, 5, 7, 10, 100} {
			wantNoNumber(t, new(big.Int).Add(power, big.NewInt(more)).String())
		}
	}
	for more := range 2000 {
		n := new(big.Int).Add(big.NewInt(greatestInt-1000), big.NewInt(int64(more)))
		wantBoth(t, n.String())
	}
	// A last digit that is too great, and one digit too much.
	for _, n := range someNumbers() {
		for digit := range 10 {
			wantBoth(t, strconv.Itoa(n)+strconv.Itoa(digit))
		}
	}
}

// P11.1: each byte, each two bytes, and each byte at each place of a number.
func TestNumberBytes(t *testing.T) {
	for i := range 256 {
		wantBoth(t, string([]byte{byte(i)}))
		for k := range 256 {
			wantBoth(t, string([]byte{byte(i), byte(k)}))
		}
	}
	for _, s := range []string{"123", "9223372036854775807", "1,23,456"} {
		for at := range len(s) {
			for i := range 256 {
				wantBoth(t, s[:at]+string([]byte{byte(i)})+s[at+1:])
				wantBoth(t, s[:at]+string([]byte{byte(i)})+s[at:])
			}
			wantBoth(t, s[:at]+s[at+1:])
			wantBoth(t, s[:at])
		}
	}
}

// P11.1: one, two and many.
func TestNumbers(t *testing.T) {
	wantNumbers(t, "0", 0)
	wantNumbers(t, "0,0", 0, 0)
	wantNumbers(t, "1,0,12", 1, 0, 12)
	wantNumbers(t, "9223372036854775807,0,9223372036854775807", greatestInt, 0, greatestInt)
	all := someNumbers()
	for _, n := range all {
		wantNumbers(t, strconv.Itoa(n), n)
		for _, other := range all {
			wantNumbers(t, strconv.Itoa(n)+","+strconv.Itoa(other), n, other)
		}
	}
	wantNumbers(t, strings.Join(texts(all...), ","), all...)
	for _, many := range []int{3, 10, 64, 65, 256, 257, 1 << 16} {
		list := make([]int, many)
		for i := range list {
			list[i] = all[i*31%len(all)]
		}
		wantNumbers(t, strings.Join(texts(list...), ","), list...)
	}
}

// P11.1: commas that part nothing, and one that is no number at each place.
func TestNoNumbers(t *testing.T) {
	for _, s := range []string{"", ",", ",,", ",,,", ",1", "1,", ",1,", "1,,2", ",1,2", "1,2,", "1,2,,3", "1, 2", "1 ,2", " 1,2", "1,2 ", "1;2", "1.2,3", "1,2\n", "1,-2", "-1,2", "01,2", "1,02", "1,00", "0,", ",0", strings.Repeat(",", 1<<16), strings.Repeat("1,", 1<<16), strings.Repeat(",1", 1<<16)} {
		wantNoNumbers(t, s)
	}
	for many := 1; many <= 5; many++ {
		for place := range many {
			for _, bad := range noNumbers() {
				parts := texts([]int{7, 0, greatestInt, 12, 3}[:many]...)
				parts[place] = bad
				wantNoNumbers(t, strings.Join(parts, ","))
			}
		}
	}
}

// P11.1: texts of the bytes that matter, held against the chapter's words.
func TestMixedNumbers(t *testing.T) {
	const letters = "0123456789012345678901234567899,,,,-+ x\x00\xff"
	chance := rand.New(rand.NewPCG(11, 1))
	for range 200000 {
		s := make([]byte, chance.IntN(24))
		for i := range s {
			// Mostly digits and commas, so that many are right.
			s[i] = letters[chance.IntN(len(letters)-6*chance.IntN(2))]
		}
		wantBoth(t, string(s))
	}
}

// P11.1: a list that was handed out is nobody else's.
func TestNumbersAreNew(t *testing.T) {
	const s = "1,2,3,4,5"
	first, _ := body.Numbers(s)
	second, _ := body.Numbers(s)
	spoil(first)
	if !slices.Equal(second, []int{1, 2, 3, 4, 5}) {
		t.Fatalf("two lists share their memory: %v", second)
	}
	wantNumbers(t, s, 1, 2, 3, 4, 5)
}

// spoil writes over a list, and over its spare room.
func spoil(list []int) {
	list = list[:cap(list)]
	for i := range list {
		list[i] = -1
	}
}
