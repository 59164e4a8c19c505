package sum_test

import (
	"regexp"
	"strconv"
	"strings"
	"testing"

	"spigot/api"
	"spigot/sum"
)

const (
	leastInt    = -1 << 63
	greatestInt = 1<<63 - 1
)

// noSums are numbers that are none; of some of them the lower bits, or what is behind the sign, would be one.
func noSums() []int {
	return []int{-1, -2, -65, -255, -256, -257, -512, 256, 257, 258, 300, 321, 511, 512, 999, 1000, 1 << 16, 1<<16 + 65, 1 << 32, 1<<32 + 65, 1<<62 + 65, leastInt, leastInt + 1, leastInt + 65, greatestInt - 1, greatestInt}
}

// noLengths are numbers that are none, in the same way.
func noLengths() []int {
	return []int{0, -1, -2, -9, -10, -4095, -4096, -4097, 4097, 4098, 5000, 8192, 9999, 10000, 10001, 1 << 16, 1<<16 + 1, 1 << 32, 1<<32 + 100, 1<<62 + 100, leastInt, leastInt + 1, leastInt + 100, greatestInt - 1, greatestInt}
}

// texts are of no bytes, of one, of some and of many, of any kind.
func texts() []string {
	return []string{
		"", "A", "\x00", "\x00\x00", "\x01", "\x7f", "\x80", "\xff", "\xff\x01", "\x01\xff", "\xff\x00", "\xff\x02", "\x7f\x80", "\x80\x80", "\xff\xff", "\xff\xff\xff",
		"é", "€", "😀", "\ufffd", "\xc0\x80", "35=D\x0111=x\x01", "8=FIX.4.4\x019=5\x0135=0\x01",
		strings.Repeat("\x01", 255), strings.Repeat("\x01", 256), strings.Repeat("\x01", 257), strings.Repeat("\xff", 255), strings.Repeat("\xff", 256), strings.Repeat("\xff", 257),
		strings.Repeat("\x00", 1000), strings.Repeat("A\x00é\xff", 1<<14), strings.Repeat("\xff", 1<<20), strings.Repeat("\xff", 1<<20+1),
	}
}

// sumOf goes by the document's words: the sum of all bytes, and then 256 off as often as it has them.
func sumOf(s string) int {
	all := 0
	for _, b := range []byte(s) {
		all += int(b)
	}
	for all >= 256 {
		all -= 256
	}
	return all
}

func wantSum(t *testing.T, s string, n int) {
	t.Helper()
	if got := sum.Sum(s); got != n {
		t.Fatalf("Sum of %d bytes, %.40q: %d; asked for: %d", len(s), s, got, n)
	}
}

func wantJoin(t *testing.T, a, b, n int, e api.Errno) {
	t.Helper()
	if got, no := sum.Join(a, b); got != n || no != e {
		t.Fatalf("Join(%d, %d): %d, %d; asked for: %d, %d", a, b, got, no, n, e)
	}
}

func wantThree(t *testing.T, n int, digits string, e api.Errno) {
	t.Helper()
	if got, no := sum.Three(n); got != digits || no != e {
		t.Fatalf("Three(%d): %q, %d; asked for: %q, %d", n, got, no, digits, e)
	}
}

func wantRead(t *testing.T, s string, n int, e api.Errno) {
	t.Helper()
	if got, no := sum.Read(s); got != n || no != e {
		t.Fatalf("Read(%.40q): %d, %d; asked for: %d, %d", s, got, no, n, e)
	}
}

func wantLength(t *testing.T, n int, digits string, e api.Errno) {
	t.Helper()
	if got, no := sum.Length(n); got != digits || no != e {
		t.Fatalf("Length(%d): %q, %d; asked for: %q, %d", n, got, no, digits, e)
	}
}

func wantReadLength(t *testing.T, s string, n int, e api.Errno) {
	t.Helper()
	if got, no := sum.ReadLength(s); got != n || no != e {
		t.Fatalf("ReadLength(%.40q): %d, %d; asked for: %d, %d", s, got, no, n, e)
	}
}

// number is what digits say to the library.
func number(t *testing.T, digits string) int {
	t.Helper()
	n, err := strconv.Atoi(digits)
	if err != nil {
		t.Fatal(err)
	}
	return n
}

// put is a text with one of its bytes being another one.
func put(s string, at int, b byte) string {
	return s[:at] + string([]byte{b}) + s[at+1:]
}

// The chapter's examples.
func TestExamples(t *testing.T) {
	wantSum(t, "A", 65)
	wantThree(t, 65, "065", api.OK)
	wantRead(t, "65", 0, api.ErrForm)
	wantRead(t, "256", 0, api.ErrForm)
	wantReadLength(t, "05", 0, api.ErrForm)
}

// P9.1: texts of no byte, of each byte, and of bytes whose sum is around 256.
func TestSum(t *testing.T) {
	wantSum(t, "", 0)
	for b := range 256 {
		one := string([]byte{byte(b)})
		wantSum(t, one, b)
		wantSum(t, "\x00"+one+"\x00\x00", b)
	}
	for _, c := range []struct {
		s string
		n int
	}{
		{"\xff", 255}, {"\xfe\x01", 255}, {"\x7f\x80", 255}, {"\x80\x7f\x00", 255},
		{"\xff\x01", 0}, {"\x01\xff", 0}, {"\x80\x80", 0}, {"\x00\x80\x00\x80", 0},
		{"\xff\x02", 1}, {"\x81\x80", 1}, {"\xff\x01\x01", 1},
		{"\xff\xff", 254}, {"\xff\xff\xff", 253}, {"\x80\x80\x80", 128},
		{"AB", 131}, {"é", 108}, {"€", 16}, {"😀", 167}, {"\ufffd", 107}, {"35=D\x01", 234},
	} {
		wantSum(t, c.s, c.n)
	}
}

// P9.1: texts of any number of bytes; each two bytes.
func TestSumOfMany(t *testing.T) {
	for _, s := range texts() {
		wantSum(t, s, sumOf(s))
	}
	for many := range 1000 {
		wantSum(t, strings.Repeat("\x01", many), many%256)
		wantSum(t, strings.Repeat("\xff", many), (256000-many)%256)
		wantSum(t, strings.Repeat("\x00", many), 0)
		wantSum(t, strings.Repeat("\x80", many), many%2*128)
	}
	for i := range 1 << 16 {
		first, second := i>>8, i%256
		wantSum(t, string([]byte{byte(first), byte(second)}), (first+second)%256)
	}
}

// P9.1: each two sums, which are those of two texts of one byte.
func TestJoin(t *testing.T) {
	wantJoin(t, 0, 0, 0, api.OK)
	wantJoin(t, 0, 255, 255, api.OK)
	wantJoin(t, 255, 0, 255, api.OK)
	wantJoin(t, 255, 1, 0, api.OK)
	wantJoin(t, 255, 255, 254, api.OK)
	for a := range 256 {
		for b := range 256 {
			n := a + b
			if n > 255 {
				n -= 256
			}
			wantJoin(t, a, b, n, api.OK)
		}
	}
}

// P9.1: what is no sum, on either side and on both.
func TestJoinRefuses(t *testing.T) {
	for _, no := range noSums() {
		for n := range 256 {
			wantJoin(t, no, n, 0, api.ErrArg)
			wantJoin(t, n, no, 0, api.ErrArg)
		}
		for _, other := range noSums() {
			wantJoin(t, no, other, 0, api.ErrArg)
		}
	}
}

// P9.1: of two texts one behind the other, cut anywhere.
func TestJoinOfTexts(t *testing.T) {
	for _, s := range texts() {
		for _, other := range texts() {
			wantJoin(t, sum.Sum(s), sum.Sum(other), sum.Sum(s+other), api.OK)
		}
	}
	s := strings.Repeat("8=FIX.4.4\x01\x00\xff\x80é", 20)
	for at := range len(s) + 1 {
		wantJoin(t, sum.Sum(s[:at]), sum.Sum(s[at:]), sumOf(s), api.OK)
	}
}

// P9.2: each sum has its digits, and is read from them.
func TestThree(t *testing.T) {
	wantThree(t, 0, "000", api.OK)
	wantThree(t, 9, "009", api.OK)
	wantThree(t, 10, "010", api.OK)
	wantThree(t, 99, "099", api.OK)
	wantThree(t, 100, "100", api.OK)
	wantThree(t, 255, "255", api.OK)
	for n := range 256 {
		digits := strings.Repeat("0", 3-len(strconv.Itoa(n))) + strconv.Itoa(n)
		wantThree(t, n, digits, api.OK)
		wantRead(t, digits, n, api.OK)
	}
	for _, n := range noSums() {
		wantThree(t, n, "", api.ErrArg)
	}
	for n := -2000; n < 12000; n++ {
		if n < 0 || n > 255 {
			wantThree(t, n, "", api.ErrArg)
		}
	}
}

// P9.2: what is not three digits, or says too much.
func TestReadRefuses(t *testing.T) {
	for _, s := range []string{
		"", "0", "6", "9", "00", "06", "65", "99", "0000", "0065", "0650", "1000", "0255", "2550", "00000", "65 ", " 65", "6 5",
		"256", "257", "260", "299", "300", "321", "512", "999", "-65", "+65", "-00", "+00", "-01", "6-5", "06-", "06+", "0x1", "1e1", "1_0", "0.5", "1.0", "06a", "a06", "0a6", "abc", "A", "   ", " 065", "065 ", "\t65", "65\n", "065\x01", "10=", "065\x00", "\x0065",
		"/00", "0/0", "00/", ":00", "0:0", "00:", "\xff65", "0\x8065", "06\xff", "0é", "é0", "06é", "065é", "€", "\u06650", "06\u0665", "０６５", "\u0660\u0666\u0665", "\ufffd",
		strings.Repeat("0", 100), strings.Repeat("9", 100), strings.Repeat("1", 1<<16), strings.Repeat("0", 1<<16) + "065", "18446744073709551681", "4294967361",
	} {
		wantRead(t, s, 0, api.ErrForm)
	}
}

// P9.2: each byte at each of the three places, and all numbers of three digits; then those of other lengths.
func TestReadEachByte(t *testing.T) {
	right := regexp.MustCompile(`^[0-9]{3}$`)
	for _, s := range []string{"000", "001", "065", "099", "100", "199", "255", "250", "205", "256", "999"} {
		for at := range 3 {
			for b := range 256 {
				text := put(s, at, byte(b))
				if right.MatchString(text) && text <= "255" {
					wantRead(t, text, number(t, text), api.OK)
				} else {
					wantRead(t, text, 0, api.ErrForm)
				}
			}
		}
	}
	for n := range 100000 {
		digits := strconv.Itoa(n)
		for len(digits) <= 5 {
			if len(digits) == 3 && n < 256 {
				wantRead(t, digits, n, api.OK)
			} else {
				wantRead(t, digits, 0, api.ErrForm)
			}
			digits = "0" + digits
		}
	}
}

// P9.3: each length has its digits, and is read from them.
func TestLength(t *testing.T) {
	wantLength(t, 1, "1", api.OK)
	wantLength(t, 9, "9", api.OK)
	wantLength(t, 10, "10", api.OK)
	wantLength(t, 99, "99", api.OK)
	wantLength(t, 100, "100", api.OK)
	wantLength(t, 999, "999", api.OK)
	wantLength(t, 1000, "1000", api.OK)
	wantLength(t, 4096, "4096", api.OK)
	for n := 1; n <= api.MaxBody; n++ {
		wantLength(t, n, strconv.Itoa(n), api.OK)
		wantReadLength(t, strconv.Itoa(n), n, api.OK)
	}
	for _, n := range noLengths() {
		wantLength(t, n, "", api.ErrArg)
	}
	for n := -12000; n < 120000; n++ {
		if n < 1 || n > 4096 {
			wantLength(t, n, "", api.ErrArg)
			wantReadLength(t, strconv.Itoa(n), 0, api.ErrForm)
		}
	}
}

// P9.3: what is not the digits of a length.
func TestReadLengthRefuses(t *testing.T) {
	for _, s := range []string{
		"", "0", "00", "000", "0000", "01", "05", "005", "0005", "00005", "010", "0100", "04096", "0x1", "0a",
		"-1", "+1", "-", "+", " 1", "1 ", " ", "  ", "1 0", "1-", "1+", "-0", "+0", "-4096", "+4096", " 4096", "4096 ", "\t1", "1\n", "1\x01", "1\x00", "\x001", "\x01",
		"a", "a1", "1a", "12a", "1a2", "a12", "123a", "12a3", "1a23", "a123", "1.0", "1.", ".1", "1e1", "1e3", "1_0", "1,000", "1=", "=1",
		"/", ":", "/1", ":1", "1/", "1:", "\xff", "\x80", "1\xff", "1\x80", "é", "1é", "\u0661", "1\u0661", "１", "\ufffd", "1\ufffd",
		"4097", "4098", "4100", "4960", "5000", "9999", "4096a", "40960", "10000", "10001", "40961", "99999",
		// So many that they would come round to a length in 16, 32 or 64 bits.
		"65537", "65636", "4294967297", "4294967396", "18446744073709551617", "18446744073709551716", "9223372036854775808", "-18446744073709551615",
		strings.Repeat("9", 100), strings.Repeat("1", 1<<16), "1" + strings.Repeat("0", 1<<16), strings.Repeat("0", 1<<16), strings.Repeat("0", 1<<16) + "1",
	} {
		wantReadLength(t, s, 0, api.ErrForm)
	}
}

// P9.3: each byte at each place, also behind the last one and ahead of the first one.
func TestReadLengthEachByte(t *testing.T) {
	right := regexp.MustCompile(`^[1-9][0-9]{0,3}$`)
	want := func(s string) {
		t.Helper()
		if right.MatchString(s) && number(t, s) <= 4096 {
			wantReadLength(t, s, number(t, s), api.OK)
		} else {
			wantReadLength(t, s, 0, api.ErrForm)
		}
	}
	for _, s := range []string{"1", "5", "9", "10", "99", "100", "409", "410", "999", "1000", "3999", "4000", "4090", "4096", "4097", "9999"} {
		for b := range 256 {
			for at := range len(s) {
				want(put(s, at, byte(b)))
			}
			for at := range len(s) + 1 {
				want(s[:at] + string([]byte{byte(b)}) + s[at:])
			}
		}
	}
}

// P9.2, P9.3: no length is read as a sum by fewer or more digits, nor the other way round.
func TestDigitsOfEither(t *testing.T) {
	for n := range 256 {
		three, _ := sum.Three(n)
		if n < 100 {
			wantReadLength(t, three, 0, api.ErrForm)
		} else {
			wantReadLength(t, three, n, api.OK)
		}
	}
	for n := 1; n <= api.MaxBody; n++ {
		length, _ := sum.Length(n)
		if n < 100 || n > 255 {
			wantRead(t, length, 0, api.ErrForm)
		} else {
			wantRead(t, length, n, api.OK)
		}
	}
}

// P9.4: one byte that is another one, whichever they are, wherever it is.
func TestOtherByte(t *testing.T) {
	for from := range 256 {
		for to := range 256 {
			for _, around := range [][2]string{{"", ""}, {"A", ""}, {"", "A"}, {"\xff\x00", "\x80é"}, {strings.Repeat("\xff", 300), strings.Repeat("\x01", 300)}} {
				was := sum.Sum(around[0] + string([]byte{byte(from)}) + around[1])
				is := sum.Sum(around[0] + string([]byte{byte(to)}) + around[1])
				if (was == is) != (from == to) {
					t.Fatalf("between %.10q and %.10q: with the byte %d the sum is %d, with the byte %d it is %d", around[0], around[1], from, was, to, is)
				}
			}
		}
	}
}

// P9.4: at each place of longer texts.
func TestOtherByteEachPlace(t *testing.T) {
	for _, s := range texts() {
		if len(s) > 1000 {
			s = s[:1000]
		}
		was := sum.Sum(s)
		for at := range len(s) {
			for by := 1; by < 256; by++ {
				if by > 2 && by < 253 && by != 127 && by != 128 && len(s) > 30 {
					continue
				}
				if is := sum.Sum(put(s, at, s[at]+byte(by))); is == was {
					t.Fatalf("%.40q, with %d more at the place %d: the sum is %d as before", s, by, at, is)
				}
			}
		}
	}
}

// A mixed run: texts cut and changed at mixed places, held against the document's words.
func TestMixedRun(t *testing.T) {
	state := uint64(88172645463325252)
	next := func(below int) int {
		state ^= state << 13
		state ^= state >> 7
		state ^= state << 17
		return int(state % uint64(below))
	}
	for range 3000 {
		bytes := make([]byte, next(600))
		for i := range bytes {
			bytes[i] = byte(next(256))
		}
		s := string(bytes)
		n := sumOf(s)
		wantSum(t, s, n)
		at := next(len(s) + 1)
		wantJoin(t, sum.Sum(s[:at]), sum.Sum(s[at:]), n, api.OK)
		three, _ := sum.Three(sum.Sum(s))
		wantRead(t, three, n, api.OK)
		if len(s) > 0 {
			place, by := next(len(s)), 1+next(255)
			wantSum(t, put(s, place, s[place]+byte(by)), (n+by)%256)
			length, _ := sum.Length(len(s))
			wantReadLength(t, length, len(s), api.OK)
		}
	}
}
