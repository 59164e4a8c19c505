package wire_test

import (
	"fmt"
	"slices"
	"strconv"
	"strings"
	"testing"

	"spigot/api"
	"spigot/tag"
	"spigot/wire"
)

const head = "8=FIX.4.4\x019="

// bodyOf is a right body of just so many bytes, four or more: a's in as few fields as there can be.
func bodyOf(bytes int) string {
	s := ""
	for bytes > 0 {
		n := min(bytes, 2+api.MaxValue+1)
		if rest := bytes - n; rest > 0 && rest < 4 {
			// No field has so few bytes.
			n -= 4
		}
		s += "1=" + strings.Repeat("a", n-3) + "\x01"
		bytes -= n
	}
	return s
}

// fields are so many, one behind the other.
func fields(many int) string {
	s := ""
	for i := range many {
		s += strconv.Itoa(1+1234*i%api.MaxTag) + "=v" + strconv.Itoa(i) + "é\x01"
	}
	return s
}

// shortBodies are of few bytes; some have fields that stand ahead of a body or behind it, or look so.
func shortBodies() []string {
	return []string{
		"35=0\x01", "1=a\x01", "1=1\x01", "99999=z\x01", "7==\x01", "58=a=b c\x01", "58=é€😀\x01", "58=~\x01", "58= \x01",
		"35=D\x0111=x\x01", "35=D\x0111=x=y\x0135=D\x01", "10=163\x01", "10=000\x0110=000\x01", "8=FIX.4.4\x01", "8=FIX.4.4\x019=5\x0135=0\x0110=163\x01", "9=5\x01", "58=10=163\x01", "1=a\x0110=\u0080\x01",
		bodyOf(8), bodyOf(9), bodyOf(10), bodyOf(11),
	}
}

// bodies are of any number of bytes and fields that may be.
func bodies() []string {
	list := append(shortBodies(), fields(2), fields(3), fields(api.MaxFields-1), fields(api.MaxFields), strings.Repeat("1=a\x01", api.MaxFields))
	for _, bytes := range []int{98, 99, 100, 101, 515, 516, 517, 518, 519, 998, 999, 1000, 1001, api.MaxBody - 1, api.MaxBody} {
		list = append(list, bodyOf(bytes))
	}
	return append(list, "58="+strings.Repeat("😀", 128)+"\x01", bodyOf(api.MaxBody-519)+"99999="+strings.Repeat("é", 256)+"\x01")
}

// noFields are texts of a right length that aren't fields, and what layer 8 tells of them.
func noFields() map[string]api.Errno {
	long := strings.Repeat("a", api.MaxValue)
	full := fields(api.MaxFields)
	return map[string]api.Errno{
		"3": api.ErrOpen, "35": api.ErrOpen, "35=": api.ErrOpen, "35=0": api.ErrOpen, "99999": api.ErrOpen, "1=" + long: api.ErrOpen, "35=0\x011": api.ErrOpen, "35=0\x0110=163": api.ErrOpen,
		bodyOf(api.MaxBody-1) + "1": api.ErrOpen, bodyOf(api.MaxBody-4) + "1=ab": api.ErrOpen,
		"x": api.ErrTag, "0": api.ErrTag, "=": api.ErrTag, "\x01": api.ErrTag, "\x00": api.ErrTag, "\xff": api.ErrTag, " 35=0\x01": api.ErrTag, "035=0\x01": api.ErrTag, "=a\x01": api.ErrTag, "100000=a\x01": api.ErrTag, "35\x01": api.ErrTag, "35=0\x01\x01": api.ErrTag, "35=0\x01x": api.ErrTag, "35=0\x01x=\x01": api.ErrTag,
		strings.Repeat("x", api.MaxBody): api.ErrTag, strings.Repeat("1", api.MaxBody): api.ErrTag, bodyOf(api.MaxBody-1) + "x": api.ErrTag,
		"35=\x01": api.ErrValue, "35=\x00\x01": api.ErrValue, "35=a\x1f\x01": api.ErrValue, "35=\x7f\x01": api.ErrValue, "35=\xff\x01": api.ErrValue, "35=\ufffd\x01": api.ErrValue, "35=\xc3\x01": api.ErrValue, "35=\xc3": api.ErrValue, "1=" + long + "a\x01": api.ErrValue, "1=" + long + "a": api.ErrValue, "35=0\x0111=\x01": api.ErrValue, "35=0\x0111=\x01x": api.ErrValue,
		"1=" + strings.Repeat("a", api.MaxBody-2): api.ErrValue, bodyOf(api.MaxBody-3) + "1=\x01": api.ErrValue,
		full + "1=a\x01": api.ErrBig, full + "x": api.ErrBig, full + "1=\x01": api.ErrBig, full + "1": api.ErrBig, fields(api.MaxFields + 1): api.ErrBig, strings.Repeat("1=a\x01", api.MaxFields+1): api.ErrBig, strings.Repeat("1=a\x01", api.MaxBody/4): api.ErrBig,
	}
}

// sumOf goes by the document's words: the sum of all bytes, less as many times 256 as it has.
func sumOf(s string) int {
	all := 0
	for _, b := range []byte(s) {
		all += int(b)
	}
	return all % 256
}

// aheadOf is all of a message that stands ahead of its trailer.
func aheadOf(body string) string {
	return head + strconv.Itoa(len(body)) + "\x01" + body
}

// closed is a text with the trailer that it asks for behind it.
func closed(ahead string) string {
	return fmt.Sprintf("%s10=%03d\x01", ahead, sumOf(ahead))
}

// messageOf goes by the document's words, whatever the body is.
func messageOf(body string) string {
	return closed(aheadOf(body))
}

// put is a text with one of its bytes being another one.
func put(s string, at int, b byte) string {
	return s[:at] + string([]byte{b}) + s[at+1:]
}

// behinds are texts that may stand behind a message.
func behinds() []string {
	return []string{"", "x", "8", "8=", "1", "10=163\x01", "\x00", "\x01", "\xff", "é", head, messageOf("35=0\x01"), messageOf("x"), strings.Repeat("a", 1<<16)}
}

func wantSeal(t *testing.T, body, message string, e api.Errno) {
	t.Helper()
	if got, no := wire.Seal(body); got != message || no != e {
		t.Fatalf("Seal of %d bytes, %.60q: %.80q, %d; asked for: %.80q, %d", len(body), body, got, no, message, e)
	}
}

func wantOpen(t *testing.T, s, body string, bytes int) {
	t.Helper()
	if got, n, e := wire.Open(s); got != body || n != bytes || e != api.OK {
		t.Fatalf("Open of %d bytes, %.80q: %.60q, %d, %d; asked for: %.60q, %d", len(s), s, got, n, e, body, bytes)
	}
}

func wantNoOpen(t *testing.T, s string, asked api.Errno) {
	t.Helper()
	if body, n, e := wire.Open(s); body != "" || n != 0 || e != asked {
		t.Fatalf("Open of %d bytes, %.80q: %.60q, %d, %d; asked for: %d", len(s), s, body, n, e, asked)
	}
}

func wantCut(t *testing.T, s string, list []string, at int, e api.Errno) {
	t.Helper()
	got, place, no := wire.Cut(s)
	if !slices.Equal(got, list) || place != at || no != e {
		t.Fatalf("Cut of %d bytes, %.80q: %d bodies, %d, %d; asked for: %d bodies, %d, %d", len(s), s, len(got), place, no, len(list), at, e)
	}
}

// The chapter's example.
func TestExample(t *testing.T) {
	const message = "8=FIX.4.4\x019=5\x0135=0\x0110=163\x01"
	wantSeal(t, "35=0\x01", message, api.OK)
	wantOpen(t, message, "35=0\x01", 26)
	wantCut(t, message, []string{"35=0\x01"}, 26, api.OK)
}

// P10.1: bodies of one field, of many, and of all numbers of bytes that may be.
func TestSeal(t *testing.T) {
	wantSeal(t, "1=a\x01", "8=FIX.4.4\x019=4\x011=a\x0110=156\x01", api.OK)
	wantSeal(t, "35=D\x0111=x\x01", "8=FIX.4.4\x019=10\x0135=D\x0111=x\x0110=251\x01", api.OK)
	for _, body := range bodies() {
		wantSeal(t, body, messageOf(body), api.OK)
	}
	for bytes := 4; bytes <= api.MaxBody; bytes++ {
		wantSeal(t, bodyOf(bytes), messageOf(bodyOf(bytes)), api.OK)
	}
}

// P10.1: no byte, and more than may be; also where it isn't fields, for the length comes first.
func TestSealLength(t *testing.T) {
	wantSeal(t, "", "", api.ErrLength)
	for _, bytes := range []int{api.MaxBody + 1, api.MaxBody + 2, 5000, 9999, 10000, 1 << 16, 1<<16 + 5, 1 << 20} {
		for _, body := range []string{bodyOf(bytes), strings.Repeat("x", bytes), strings.Repeat("1", bytes), "1=" + strings.Repeat("a", bytes-2), "1=\x01" + strings.Repeat("\x00", bytes-3), strings.Repeat("1=a\x01", bytes/4+1)} {
			if len(body) > api.MaxBody {
				wantSeal(t, body, "", api.ErrLength)
			}
		}
	}
}

// P10.1: each error of layer 8's Fields.
func TestSealFields(t *testing.T) {
	told := map[api.Errno]int{}
	for body, e := range noFields() {
		wantSeal(t, body, "", e)
		told[e]++
	}
	if len(told) != 4 {
		t.Errorf("not each error was met: %v", told)
	}
	for b := range 256 {
		body := string([]byte{byte(b)})
		_, _, e := tag.Fields(body)
		wantSeal(t, body, "", e)
	}
}

// P10.2: the body and the number of bytes of the message alone, whatever is behind it.
func TestOpen(t *testing.T) {
	for _, body := range bodies() {
		message := messageOf(body)
		for _, behind := range behinds() {
			wantOpen(t, message+behind, body, len(message))
		}
		for b := range 256 {
			wantOpen(t, message+string([]byte{byte(b)}), body, len(message))
		}
	}
	for bytes := 4; bytes <= api.MaxBody; bytes++ {
		message := messageOf(bodyOf(bytes))
		wantOpen(t, message, bodyOf(bytes), 10+2+len(strconv.Itoa(bytes))+1+bytes+7)
	}
}

// P10.2: nothing, and each message cut off at each of its bytes.
func TestOpenCutOff(t *testing.T) {
	wantNoOpen(t, "", api.ErrShort)
	for _, body := range bodies() {
		message := messageOf(body)
		for n := range len(message) {
			wantNoOpen(t, message[:n], api.ErrShort)
		}
	}
	// A body that isn't fields, and a trailer that isn't one, come behind the end that is missing.
	for body := range noFields() {
		message := messageOf(body)
		for n := len(message) - 8; n < len(message); n++ {
			wantNoOpen(t, message[:n], api.ErrShort)
		}
	}
	message := messageOf("35=0\x01")
	for at := len(message) - 7; at < len(message)-1; at++ {
		for n := at + 1; n < len(message); n++ {
			wantNoOpen(t, put(message, at, 'x')[:n], api.ErrShort)
		}
	}
}

// P10.2: each byte of what a message begins with being each other one, with nothing, something and anything wrong behind it.
func TestOpenBegin(t *testing.T) {
	message := messageOf("35=0\x01")
	for at := range len(head) {
		for b := range 256 {
			if byte(b) == head[at] {
				continue
			}
			s := put(message, at, byte(b))
			for _, text := range []string{s, s[:at+1], s[:len(head)], s[:len(s)-1], s[:len(head)] + "0", s[:len(head)] + "x", s[:at+1] + "x", s[:len(s)-4] + "000\x01", closed(s[:len(s)-7])} {
				wantNoOpen(t, text, api.ErrBegin)
			}
		}
		// One byte too few, or one twice.
		wantNoOpen(t, message[:at]+message[at+1:], api.ErrBegin)
		wantNoOpen(t, message[:at]+message[at:at+1]+message[at:], beginTwice(at))
	}
	for _, s := range []string{"x", "9", "\x01", "\x00", "\xff", " 8=FIX.4.4\x01", "8=FIX.4.2\x019=5\x01", "8=fix.4.4\x01", "8=FIX.4.4|9=5|", "8=FIXT.1.1\x01", "9=5\x01", "35=0\x01", "\n" + message, "8=FIX.4.4\x0135=0\x01"} {
		wantNoOpen(t, s, api.ErrBegin)
	}
}

// beginTwice is what is asked for where the byte at a place of the beginning stands there twice: of the last one, the second stands where a digit should be.
func beginTwice(at int) api.Errno {
	if at == len(head)-1 {
		return api.ErrLength
	}
	return api.ErrBegin
}

// P10.2: what stands where the length should be, and is none; what is behind it doesn't matter.
func TestOpenLength(t *testing.T) {
	for _, s := range []string{
		"\x01", "0", "00", "0\x01", "01", "05\x01", "005\x01", "04096\x01", "000000000005\x01",
		"-", "-5\x01", "+", "+5\x01", " ", " 5\x01", "5 ", "5 \x01", "5-", "5+\x01", "5-1\x01", "1 2\x01", "x", "x5\x01", "5x", "5x\x01", "1x2\x01", "12x\x01", "123x", "0x5\x01", "1e1\x01", "1_0\x01", "1.0\x01", "1,000\x01",
		"=", "5=", "\x00", "5\x00", "5\x02", "5\xff", "5\x80", "\xff", "/", ":", "5/", "5:", "5é\x01", "\u0665\x01", "5\u0665\x01", "５\x01", "5\n", "5\t", "4096x", "4096 ", "4096\x00", "409x",
		"4097", "4097\x01", "4098\x01", "4100\x01", "5000", "9999", "9999\x01", "40960", "40961\x01", "10000\x01", "10005\x01", "99999\x01",
		// So many that they would come round to a length in 16, 32 or 64 bits.
		"65541\x01", "4294967301\x01", "18446744073709551621\x01", "9223372036854775808\x01", "340282366920938463463374607431768211461\x01",
		strings.Repeat("9", 100), strings.Repeat("1", 1<<16), strings.Repeat("1", 1<<16) + "\x01", "5" + strings.Repeat("0", 1<<16), strings.Repeat("0", 1<<16) + "5\x01",
	} {
		for _, behind := range []string{"", "x", "35=0\x0110=163\x01", "35=0\x01", "\x01", "5\x01"} {
			wantNoOpen(t, head+s+behind, api.ErrLength)
			wantNoOpen(t, closed(head+s+behind), api.ErrLength)
		}
	}
	// So long a body is there, but it is too much.
	for _, bytes := range []int{api.MaxBody + 1, 5000, 9999, 10000, 1<<16 + 5} {
		wantNoOpen(t, messageOf(bodyOf(bytes)), api.ErrLength)
	}
	wantNoOpen(t, messageOf(""), api.ErrLength)
}

// P10.2: digits that are a length, with nothing behind them.
func TestOpenLengthEnds(t *testing.T) {
	for n := 1; n <= api.MaxBody; n++ {
		wantNoOpen(t, head+strconv.Itoa(n), api.ErrShort)
		wantNoOpen(t, head+strconv.Itoa(n)+"\x01", api.ErrShort)
	}
	for n := api.MaxBody + 1; n < 100000; n++ {
		wantNoOpen(t, head+strconv.Itoa(n), api.ErrLength)
	}
}

// P10.2: each byte at each place of the digits, behind them, and between.
func TestOpenLengthEachByte(t *testing.T) {
	for _, digits := range []string{"4", "5", "9", "10", "99", "100", "409", "410", "999", "1000", "4000", "4090", "4096", "4097"} {
		for b := range 256 {
			c := string([]byte{byte(b)})
			for at := range len(digits) + 1 {
				wantPlain(t, head+digits[:at]+c+digits[at:])
				wantPlain(t, head+digits[:at]+c+digits[at:]+"\x01")
				wantPlain(t, closed(head+digits[:at]+c+digits[at:]+"\x01"+bodyOf(4)))
				if at < len(digits) {
					wantPlain(t, head+put(digits, at, byte(b)))
					wantPlain(t, head+put(digits, at, byte(b))+"\x01")
				}
			}
		}
	}
}

// P10.2: a length that says less or more than the body has: the trailer isn't where it should be.
func TestOpenOtherLength(t *testing.T) {
	for _, body := range bodies() {
		for _, by := range []int{-2, -1, 1, 2} {
			n := len(body) + by
			if n < 1 {
				continue
			}
			message := closed(head + strconv.Itoa(n) + "\x01" + body)
			switch {
			case n > api.MaxBody:
				wantNoOpen(t, message, api.ErrLength)
			case by > 0:
				wantNoOpen(t, message, api.ErrShort)
				wantNoOpen(t, message+strings.Repeat("x", by), api.ErrSum)
				wantNoOpen(t, message+message, api.ErrSum)
			default:
				wantNoOpen(t, message, api.ErrSum)
				wantNoOpen(t, message+message, api.ErrSum)
			}
		}
	}
}

// P10.2: each byte of the trailer being each other one; also where the body isn't fields, for the sum comes first.
func TestOpenTrailer(t *testing.T) {
	list := shortBodies()
	for body := range noFields() {
		list = append(list, body)
	}
	for _, body := range list {
		message := messageOf(body)
		for at := len(message) - 7; at < len(message); at++ {
			for b := range 256 {
				if byte(b) == message[at] || len(body) > 100 && b%16 != at%16 {
					continue
				}
				s := put(message, at, byte(b))
				wantNoOpen(t, s, api.ErrSum)
				wantNoOpen(t, s+message, api.ErrSum)
			}
		}
	}
}

// P10.2: sums of fewer and of more digits, other sums, and other things in their place.
func TestOpenSum(t *testing.T) {
	list := bodies()
	for body := range noFields() {
		list = append(list, body)
	}
	for _, body := range list {
		ahead := aheadOf(body)
		n := sumOf(ahead)
		three := fmt.Sprintf("%03d", n)
		for _, digits := range []string{
			fmt.Sprintf("%03d", (n+1)%256), fmt.Sprintf("%03d", (n+255)%256), fmt.Sprintf("%03d", n+256), fmt.Sprintf("%03d", n+512), "0" + three, three + "0", three + " ", " " + three,
			fmt.Sprintf("-%02d", n%100), fmt.Sprintf("+%02d", n%100), " " + three[1:], three[:2] + " ", "\x00" + three[1:], "abc",
		} {
			if len(digits) == 3 && digits == three {
				t.Fatalf("%q is the sum", digits)
			}
			wantNoOpen(t, ahead+"10="+digits+"\x01", api.ErrSum)
			wantNoOpen(t, ahead+"10="+digits+"\x01"+messageOf("35=0\x01"), api.ErrSum)
		}
		// With fewer digits a byte is missing, unless something is behind it.
		for _, digits := range []string{three[1:], three[:2], three[:1], ""} {
			wantNoOpen(t, ahead+"10="+digits+"\x01", api.ErrShort)
			wantNoOpen(t, ahead+"10="+digits+"\x01"+messageOf("35=0\x01"), api.ErrSum)
		}
		for _, s := range []string{"11=" + three + "\x01", "010=" + three + "\x01", "10 =" + three + "\x01", "10=" + three + "\n", "\x0110=" + three + "\x01", three + "\x0110="} {
			wantNoOpen(t, ahead+s, api.ErrSum)
		}
	}
}

// P10.2: the sum is of all that stands ahead of the trailer, of no less and no more.
func TestOpenSumOfWhat(t *testing.T) {
	for _, body := range bodies() {
		ahead := aheadOf(body)
		for _, other := range []string{body, ahead[:len(ahead)-1], ahead + "10=", ahead[len("8=FIX.4.4\x01"):], ahead[1:], head + body} {
			if sumOf(other) != sumOf(ahead) {
				wantNoOpen(t, fmt.Sprintf("%s10=%03d\x01", ahead, sumOf(other)), api.ErrSum)
			}
		}
	}
}

// P10.1, P10.2: messages of each sum that there is, and each number of three digits as theirs.
func TestEachSum(t *testing.T) {
	met := map[int]string{}
	for a := byte(' '); a < 127; a++ {
		for b := byte(' '); b < 127; b++ {
			for _, c := range []byte{' ', '~'} {
				body := "58=" + string([]byte{a, b, c}) + "\x01"
				met[sumOf(aheadOf(body))] = body
			}
		}
	}
	for n := range 256 {
		body := met[n]
		wantSeal(t, body, messageOf(body), api.OK)
		for digits := range 1000 {
			s := fmt.Sprintf("%s10=%03d\x01", aheadOf(body), digits)
			if digits == n {
				wantOpen(t, s, body, len(s))
			} else {
				wantNoOpen(t, s, api.ErrSum)
			}
		}
	}
}

// P10.2: a body that isn't fields, the sum being right; nothing behind the body is read as a part of it.
func TestOpenFields(t *testing.T) {
	for body, e := range noFields() {
		for _, behind := range behinds() {
			wantNoOpen(t, messageOf(body)+behind, e)
		}
	}
	for b := range 256 {
		body := string([]byte{byte(b)})
		_, _, e := tag.Fields(body)
		wantNoOpen(t, messageOf(body), e)
	}
}

// P10.3: none, one, two and many messages, up to the end.
func TestCut(t *testing.T) {
	wantCut(t, "", nil, 0, api.OK)
	for _, first := range bodies() {
		one := messageOf(first)
		wantCut(t, one, []string{first}, len(one), api.OK)
		for _, second := range bodies() {
			two := one + messageOf(second)
			wantCut(t, two, []string{first, second}, len(two), api.OK)
		}
	}
	for _, many := range []int{3, 10, 100, 5000} {
		list, s := row(many)
		wantCut(t, s, list, len(s), api.OK)
	}
}

// row is so many bodies, and their messages one behind the other.
func row(many int) ([]string, string) {
	var list []string
	var s strings.Builder
	for i := range many {
		body := "35=D\x0111=x" + strconv.Itoa(i) + "\x01" + shortBodies()[i%len(shortBodies())]
		list = append(list, body)
		s.WriteString(messageOf(body))
	}
	return list, s.String()
}

// wrongs are texts that no message begins, and what is told of them.
func wrongs() map[string]api.Errno {
	message := messageOf("35=0\x01")
	all := map[string]api.Errno{
		"x": api.ErrBegin, "9": api.ErrBegin, "\x01": api.ErrBegin, "\x00": api.ErrBegin, "\n": api.ErrBegin, "\xff": api.ErrBegin, "35=0\x01": api.ErrBegin, "8=FIX.4.2\x01": api.ErrBegin, " " + message: api.ErrBegin,
		head + "0": api.ErrLength, head + "\x01": api.ErrLength, head + "05\x01": api.ErrLength, head + "4097": api.ErrLength, head + "5x": api.ErrLength, head + "-5\x0135=0\x01": api.ErrLength,
		message[:len(message)-4] + "000\x01": api.ErrSum, message[:len(message)-1] + "\x02": api.ErrSum, put(message, 20, 'x'): api.ErrSum,
	}
	for n := 1; n < len(message); n++ {
		all[message[:n]] = api.ErrShort
	}
	for body, e := range noFields() {
		all[messageOf(body)] = e
	}
	return all
}

// P10.3: something that isn't right behind none, one, two and many messages: the bodies ahead of it stay, and the place is where it begins.
func TestCutRefuses(t *testing.T) {
	for _, many := range []int{0, 1, 2, 3, 70} {
		list, s := row(many)
		for wrong, e := range wrongs() {
			wantCut(t, s+wrong, list, len(s), e)
			if e != api.ErrShort {
				// A short one would go on in what is behind it.
				wantCut(t, s+wrong+messageOf("35=0\x01"), list, len(s), e)
				wantCut(t, s+wrong+wrong, list, len(s), e)
			}
		}
	}
}

// P10.3: cut off at each byte: at a message's end nothing is wrong, within one it is short.
func TestCutEachEnd(t *testing.T) {
	list, s := row(20)
	whole, at := 0, 0
	for n := range len(s) + 1 {
		if whole < len(list) && n == at+len(messageOf(list[whole])) {
			whole, at = whole+1, n
		}
		if n == at {
			wantCut(t, s[:n], list[:whole], at, api.OK)
		} else {
			wantCut(t, s[:n], list[:whole], at, api.ErrShort)
		}
	}
}

// Rule 4: what Cut hands out is new memory, its spare room too.
func TestCutNewMemory(t *testing.T) {
	for _, many := range []int{1, 3, 5, 9} {
		list, s := row(many)
		first, _, _ := wire.Cut(s)
		first = first[:cap(first)]
		for i := range first {
			first[i] = "spoilt"
		}
		wantCut(t, s, list, len(s), api.OK)
		wantCut(t, s+"x", list, len(s), api.ErrBegin)
	}
}

// P10.4: what was sealed is opened, with anything behind it, and sealed again as the same bytes.
func TestSealedIsOpened(t *testing.T) {
	for _, body := range bodies() {
		message, e := wire.Seal(body)
		if e != api.OK {
			t.Fatalf("Seal(%.60q): %d", body, e)
		}
		for _, behind := range behinds() {
			got, n, e := wire.Open(message + behind)
			if got != body || n != len(message) || e != api.OK {
				t.Fatalf("Open(%.80q): %.60q, %d, %d", message+behind, got, n, e)
			}
			wantSeal(t, got, (message + behind)[:n], api.OK)
		}
	}
}

// P10.4: one byte of the body that is another one, at each place.
func TestOtherByte(t *testing.T) {
	for _, body := range bodies() {
		message := messageOf(body)
		first := len(message) - 7 - len(body)
		for at := first; at < first+len(body); at++ {
			for by := 1; by < 256; by++ {
				if len(body) > 30 && by != 1 && by != 128 && by != 255 {
					continue
				}
				s := put(message, at, message[at]+byte(by))
				wantNoOpen(t, s, api.ErrSum)
				if len(body) < 10 {
					wantCut(t, message+s+message, []string{body}, len(message), api.ErrSum)
				}
			}
		}
	}
}

// openOf is what the document asks of Open, told by the message that the body would have.
func openOf(s string) (body string, n int, e api.Errno) {
	rest, ok := strings.CutPrefix(s, head)
	if !ok && strings.HasPrefix(head, s) {
		return "", 0, api.ErrShort
	} else if !ok {
		return "", 0, api.ErrBegin
	}
	behind := strings.TrimLeft(rest, "0123456789")
	digits := rest[:len(rest)-len(behind)]
	length, err := strconv.Atoi(digits)
	switch {
	case rest == "":
		return "", 0, api.ErrShort
	case err != nil, digits[0] == '0', length > api.MaxBody:
		return "", 0, api.ErrLength
	case behind == "":
		return "", 0, api.ErrShort
	case behind[0] != 1:
		return "", 0, api.ErrLength
	case len(behind) < 1+length+7:
		return "", 0, api.ErrShort
	}
	body = behind[1 : 1+length]
	if !strings.HasPrefix(s, messageOf(body)) {
		return "", 0, api.ErrSum
	}
	if _, _, e := tag.Fields(body); e != api.OK {
		return "", 0, e
	}
	return body, len(messageOf(body)), api.OK
}

// wantPlain holds Open and Cut against the document's words; what is opened is sealed as the same bytes.
func wantPlain(t *testing.T, s string) {
	t.Helper()
	body, n, e := openOf(s)
	if e == api.OK {
		wantOpen(t, s, body, n)
		wantSeal(t, body, s[:n], api.OK)
	} else {
		wantNoOpen(t, s, e)
	}
	var list []string
	at := 0
	for e = api.OK; at < len(s) && e == api.OK; {
		if body, n, e = openOf(s[at:]); e == api.OK {
			list, at = append(list, body), at+n
		}
	}
	wantCut(t, s, list, at, e)
}

// P10.2: all short texts of the bytes that matter, where the length should be.
func TestAllShortLengths(t *testing.T) {
	const bytes = "01459\x01x- "
	texts := []string{""}
	for range 5 {
		var longer []string
		for _, s := range texts {
			for i := range len(bytes) {
				longer = append(longer, s+bytes[i:i+1])
			}
			wantPlain(t, head+s)
		}
		texts = longer
	}
	for _, s := range texts {
		wantPlain(t, head+s)
	}
}

// P10.2, P10.3, P10.4: messages in a row with bytes changed, left out and put in at mixed places, the same ones each time.
func TestMixed(t *testing.T) {
	x := uint64(88172645463325252)
	next := func(n int) int {
		x ^= x << 13
		x ^= x >> 7
		x ^= x << 17
		return int(x>>1) % n
	}
	bad := slices.Sorted(func(yield func(string) bool) {
		for body := range noFields() {
			if len(body) < 30 && !yield(body) {
				return
			}
		}
	})
	told := map[api.Errno]int{}
	for range 40000 {
		s := ""
		for range next(4) {
			s += messageOf(shortBodies()[next(len(shortBodies()))])
		}
		if next(3) == 0 {
			s += messageOf(bad[next(len(bad))])
		}
		for range next(3) {
			at := next(len(s) + 1)
			switch rest := s[at:]; {
			case rest == "":
				s += string([]byte{byte(next(256))})
			case next(3) == 0:
				s = s[:at] + rest[1:]
			case next(2) == 0:
				s = s[:at] + string([]byte{byte(next(256))}) + rest
			default:
				s = put(s, at, byte(next(256)))
			}
		}
		wantPlain(t, s)
		_, _, e := wire.Cut(s)
		told[e]++
	}
	for _, e := range []api.Errno{api.OK, api.ErrShort, api.ErrBegin, api.ErrLength, api.ErrSum, api.ErrTag, api.ErrValue, api.ErrOpen} {
		if told[e] < 100 {
			t.Errorf("%d is told %d times: the texts are too tame", e, told[e])
		}
	}
}
