package tag_test

import (
	"regexp"
	"slices"
	"strconv"
	"strings"
	"testing"
	"unicode/utf8"

	"spigot/api"
	"spigot/tag"
)

const (
	leastInt    = -1 << 63
	greatestInt = 1<<63 - 1
)

// tags are all kinds of numbers that are tags.
func tags() []int {
	return []int{1, 2, 9, 10, 11, 35, 99, 100, 101, 999, 1000, 9999, 10000, 10001, 90000, api.MaxTag - 1, api.MaxTag}
}

// noTags are numbers that are none; of some of them the lower bits, or what is behind the sign, would be one.
func noTags() []int {
	return []int{0, -1, -2, -35, -api.MaxTag, api.MaxTag + 1, api.MaxTag + 2, 999999, 1 << 20, 1<<32 + 35, 1<<16 + 1<<32, leastInt, leastInt + 1, leastInt + 35, greatestInt - 1, greatestInt}
}

// values are such texts as are values, of any length and of runes of one to four bytes.
func values() []string {
	list := []string{
		"a", "D", "0", "=", " ", "!", "~", "\u0080", "é", "€", "😀", "\ufffc", "\ufffe", "\uffff", "\ud7ff", "\ue000", "\U0010ffff",
		"==", "=a", "a=", "a=b", "1=2", "35=D", "  ", " a", "a ", "a b", "\u0080\u009f\u00a0", "\u2028\u3000\u200b", "é€😀a", "\"\\'|;", "<>",
	}
	for _, c := range []string{"a", "é", "€", "😀", "=", " "} {
		for _, bytes := range []int{api.MaxValue - 1, api.MaxValue} {
			list = append(list, filled(c, bytes))
		}
	}
	return list
}

// filled is a text of just so many bytes: as often the rune as there is room for it, and a's ahead of that.
func filled(c string, bytes int) string {
	return strings.Repeat("a", bytes%len(c)) + strings.Repeat(c, bytes/len(c))
}

// barredTexts may not be in a value, wherever they are: runes that are barred, and bytes that are out of place.
func barredTexts() []string {
	return []string{
		"\x00", "\x02", "\t", "\n", "\r", "\x1e", "\x1f", "\x7f", "\ufffd",
		// Ends without a beginning, beginnings without an end, bytes that are never met.
		"\x80", "\xbf", "\xc3", "\xe2", "\xe2\x82", "\xf0", "\xf0\x9f\x98", "\xc0", "\xc1", "\xf5", "\xfe", "\xff", "\x80\x80",
		// Written longer than they must be, halves of pairs, past the last rune.
		"\xc0\x80", "\xc1\xa1", "\xc0\x81", "\xe0\x81\xa1", "\xf0\x80\x81\xa1", "\xed\xa0\x80", "\xed\xbf\xbf", "\xf4\x90\x80\x80",
	}
}

// tooLong are texts of runes that may be in a value, but of too many bytes: of some of them a part of the last rune would fit.
func tooLong() []string {
	list := []string{strings.Repeat("a", 1<<16), strings.Repeat("😀", 1<<16)}
	for _, c := range []string{"a", "é", "€", "😀", "=", " "} {
		for room := range len(c) {
			list = append(list, strings.Repeat("a", api.MaxValue-room)+c, filled("é", api.MaxValue-room)+c, filled("😀", api.MaxValue-room)+c)
		}
		list = append(list, filled(c, api.MaxValue+1), filled(c, api.MaxValue+2), filled(c, 2*api.MaxValue))
	}
	return list
}

// spoilt are texts with something in them that may not be in a value: at the beginning, in the middle, at the end.
func spoilt() []string {
	var list []string
	full := strings.Repeat("a", api.MaxValue-1)
	for _, s := range barredTexts() {
		list = append(list, s, s+"a", "a"+s, "a"+s+"b", "é"+s+"😀", "="+s, s+"=", s+full, full+s, full+"a"+s, full+s+"a")
	}
	return list
}

// noValues are texts that are none: they are spoilt, too long, have an end of a field in them, or have nothing.
func noValues() []string {
	list := slices.Concat(spoilt(), tooLong())
	return append(list, "", "\x01", "\x01a", "a\x01", "a\x01b", "\x01\x01", "a\x0135=D", strings.Repeat("a", api.MaxValue)+"\x01", strings.Repeat("a", api.MaxValue-1)+"\x01")
}

func form(t *testing.T, number int, value string) string {
	t.Helper()
	s, e := tag.Form(api.Field{Tag: number, Value: value})
	if e != api.OK {
		t.Fatalf("Form(%d, %q): %d", number, value, e)
	}
	return s
}

func wantForm(t *testing.T, number int, value, form string, e api.Errno) {
	t.Helper()
	if s, got := tag.Form(api.Field{Tag: number, Value: value}); s != form || got != e {
		t.Fatalf("Form(%d, %q): %q, %d; asked for: %q, %d", number, value, s, got, form, e)
	}
}

func wantForms(t *testing.T, list []api.Field, forms string, e api.Errno) {
	t.Helper()
	kept := slices.Clone(list)
	if s, got := tag.Forms(list); s != forms || got != e {
		t.Fatalf("Forms of %d: %q, %d; asked for: %q, %d", len(list), s, got, forms, e)
	}
	if !slices.Equal(list, kept) {
		t.Fatalf("Forms has changed its list: %v", list)
	}
}

func wantNext(t *testing.T, s string, number int, value string, bytes int) {
	t.Helper()
	f, n, e := tag.Next(s)
	if f.Tag != number || f.Value != value || n != bytes || e != api.OK {
		t.Fatalf("Next(%q): %d, %q, %d, %d; asked for: %d, %q, %d", s, f.Tag, f.Value, n, e, number, value, bytes)
	}
}

func wantNoNext(t *testing.T, s string, asked api.Errno) {
	t.Helper()
	if f, n, e := tag.Next(s); f != (api.Field{}) || n != 0 || e != asked {
		t.Fatalf("Next(%q): %v, %d, %d; asked for: %d", s, f, n, e, asked)
	}
}

func wantFields(t *testing.T, s string, list []api.Field, at int, e api.Errno) {
	t.Helper()
	got, place, no := tag.Fields(s)
	if !slices.Equal(got, list) || place != at || no != e {
		t.Fatalf("Fields(%q): %v, %d, %d; asked for: %v, %d, %d", s, got, place, no, list, at, e)
	}
}

// fields are so many, none of them the same as another one.
func fields(many int) []api.Field {
	list := make([]api.Field, 0, many)
	for i := range many {
		list = append(list, api.Field{Tag: 1 + 1234*i%api.MaxTag, Value: "v=é" + strconv.Itoa(i)})
	}
	return list
}

// formsOf goes by the document's words: all forms, one behind the other.
func formsOf(list []api.Field) string {
	s := ""
	for _, f := range list {
		s += strconv.Itoa(f.Tag) + "=" + f.Value + "\x01"
	}
	return s
}

// put is a list with one of its fields changed.
func put(list []api.Field, place int, f api.Field) []api.Field {
	list = slices.Clone(list)
	list[place] = f
	return list
}

// The chapter's examples.
func TestExamples(t *testing.T) {
	wantForm(t, 35, "D", "35=D\x01", api.OK)
	wantNoNext(t, "035=D..", api.ErrTag)
	wantNoNext(t, "035=D\x01", api.ErrTag)
	wantNoNext(t, "35=", api.ErrOpen)
	wantNoNext(t, "35=\x01", api.ErrValue)
}

// P8.1: what is a field has its form, whichever tag goes with whichever value.
func TestForm(t *testing.T) {
	wantForm(t, 1, "a", "1=a\x01", api.OK)
	wantForm(t, 99999, "a=b c", "99999=a=b c\x01", api.OK)
	for _, number := range tags() {
		for _, value := range values() {
			wantForm(t, number, value, strconv.Itoa(number)+"="+value+"\x01", api.OK)
		}
	}
}

// P8.1: wrong tags, wrong values, and both: then it is the tag's error.
func TestFormRefuses(t *testing.T) {
	for _, number := range noTags() {
		for _, value := range slices.Concat(values(), noValues()) {
			wantForm(t, number, value, "", api.ErrTag)
		}
	}
	for _, number := range tags() {
		for _, value := range noValues() {
			wantForm(t, number, value, "", api.ErrValue)
		}
	}
}

// P8.1: each tag that there is, and those beside them.
func TestEachTag(t *testing.T) {
	for number := -1000; number <= api.MaxTag+1000; number++ {
		digits := strconv.Itoa(number)
		if number < 1 || number > 99999 {
			wantForm(t, number, "a", "", api.ErrTag)
			wantNoNext(t, digits+"=a\x01", api.ErrTag)
			continue
		}
		wantForm(t, number, "a", digits+"=a\x01", api.OK)
		wantNext(t, digits+"=a\x01", number, "a", len(digits)+3)
	}
}

// P8.1, P8.2: each rune that there is: alone, at either end, and between.
func TestEachRune(t *testing.T) {
	for c := range rune(utf8.MaxRune + 1) {
		s, good := string(c), true
		switch {
		case c < 32, c == 127, c == 65533:
			good = false
		case c >= 0xd800 && c <= 0xdfff:
			// A half of a pair becomes the rune 65533.
			good = false
		}
		for _, value := range []string{s, s + "b", "a" + s, "a" + s + "b"} {
			text := "7=" + value + "\x01"
			switch {
			case good:
				wantForm(t, 7, value, text, api.OK)
				wantNext(t, text, 7, value, len(text))
			case c == 1 && value[0] == 'a':
				// The value ends at the rune, which no value has within it.
				wantForm(t, 7, value, "", api.ErrValue)
				wantNext(t, text, 7, "a", 4)
			default:
				wantForm(t, 7, value, "", api.ErrValue)
				wantNoNext(t, text, api.ErrValue)
			}
		}
	}
}

// P8.1, P8.2: of each two bytes only what is two runes of one byte, or one of two, is a value.
func TestEachTwoBytes(t *testing.T) {
	for i := range 1 << 16 {
		first, second := byte(i>>8), byte(i)
		value := string([]byte{first, second})
		text := "7=" + value + "\x01"
		plain := func(b byte) bool { return b >= 32 && b <= 126 }
		switch {
		case plain(first) && plain(second) || first >= 0xc2 && first <= 0xdf && second >= 0x80 && second <= 0xbf:
			wantForm(t, 7, value, text, api.OK)
			wantNext(t, text, 7, value, 5)
		case plain(first) && second == 1:
			wantForm(t, 7, value, "", api.ErrValue)
			wantNext(t, text, 7, value[:1], 4)
		default:
			wantForm(t, 7, value, "", api.ErrValue)
			wantNoNext(t, text, api.ErrValue)
		}
	}
}

// P8.1, P8.2: of lengths bytes are counted, not runes.
func TestLengths(t *testing.T) {
	for _, c := range []string{"a", "é", "€", "😀"} {
		for bytes := range api.MaxValue + 20 {
			value := filled(c, bytes)
			text := "7=" + value + "\x01"
			if bytes >= 1 && bytes <= 512 {
				wantForm(t, 7, value, text, api.OK)
				wantNext(t, text, 7, value, len(text))
				wantNoNext(t, "7="+value, api.ErrOpen)
				continue
			}
			wantForm(t, 7, value, "", api.ErrValue)
			wantNoNext(t, text, api.ErrValue)
			if bytes > 0 {
				wantNoNext(t, "7="+value, api.ErrValue)
			}
		}
	}
}

// P8.1: lists of no field, of some, of all that may be, and of more; a list's own error comes ahead of its fields' ones.
func TestForms(t *testing.T) {
	wantForms(t, nil, "", api.OK)
	wantForms(t, []api.Field{}, "", api.OK)
	wantForms(t, []api.Field{{Tag: 35, Value: "D"}, {Tag: 11, Value: "x"}, {Tag: 35, Value: "D"}}, "35=D\x0111=x\x0135=D\x01", api.OK)
	for many := range api.MaxFields + 1 {
		list := fields(many)
		wantForms(t, list, formsOf(list), api.OK)
	}
	for _, many := range []int{api.MaxFields + 1, api.MaxFields + 2, 2 * api.MaxFields, 5000} {
		list := fields(many)
		wantForms(t, list, "", api.ErrBig)
		wantForms(t, put(list, 0, api.Field{}), "", api.ErrBig)
		wantForms(t, put(list, 0, api.Field{Tag: 1}), "", api.ErrBig)
		wantForms(t, put(list, many-1, api.Field{Value: "a"}), "", api.ErrBig)
		wantForms(t, make([]api.Field, many), "", api.ErrBig)
	}
}

// P8.1: the longest forms of all together.
func TestLongestForms(t *testing.T) {
	for _, c := range []string{"a", "😀"} {
		list := slices.Repeat([]api.Field{{Tag: api.MaxTag, Value: filled(c, api.MaxValue)}}, api.MaxFields)
		wantForms(t, list, formsOf(list), api.OK)
		wantFields(t, formsOf(list), list, api.MaxFields*(5+1+api.MaxValue+1), api.OK)
	}
}

// P8.1: a wrong field among others, wherever it is, and the first one of two.
func TestFormsRefuses(t *testing.T) {
	wrongTag, wrongValue, wrongBoth := api.Field{Tag: 0, Value: "a"}, api.Field{Tag: 1, Value: ""}, api.Field{Tag: api.MaxTag + 1, Value: "\x1f"}
	for _, many := range []int{1, 2, 3, api.MaxFields - 1, api.MaxFields} {
		list := fields(many)
		for place := range many {
			wantForms(t, put(list, place, wrongTag), "", api.ErrTag)
			wantForms(t, put(list, place, wrongValue), "", api.ErrValue)
			wantForms(t, put(list, place, wrongBoth), "", api.ErrTag)
			for next := place + 1; next < many; next++ {
				wantForms(t, put(put(list, place, wrongTag), next, wrongValue), "", api.ErrTag)
				wantForms(t, put(put(list, place, wrongValue), next, wrongTag), "", api.ErrValue)
				wantForms(t, put(put(list, place, wrongValue), next, wrongBoth), "", api.ErrValue)
			}
		}
	}
}

// Rules 4 and 8: what lies behind a list's length is neither formed nor changed.
func TestFormsLeavesSpareRoom(t *testing.T) {
	whole := put(fields(api.MaxFields+5), 3, api.Field{Tag: -1, Value: "\x00"})
	kept := slices.Clone(whole)
	wantForms(t, whole[:3], formsOf(whole[:3]), api.OK)
	wantForms(t, whole[:0], "", api.OK)
	wantForms(t, whole[4:4+api.MaxFields], formsOf(whole[4:4+api.MaxFields]), api.OK)
	if !slices.Equal(whole, kept) {
		t.Fatalf("Forms has changed what lies behind its list: %v", whole)
	}
}

// P8.2: the field at the beginning; what is behind it is left alone, whatever it is.
func TestNext(t *testing.T) {
	behind := []string{"", "11=x\x01", "11=x", "\x01", "=", "0", "x", " ", "\x00", "\x1f", "\xff", "\x80", "\ufffd", "é", strings.Repeat("a", 1<<16)}
	for _, number := range tags() {
		for _, value := range values() {
			text := strconv.Itoa(number) + "=" + value + "\x01"
			for _, s := range behind {
				wantNext(t, text+s, number, value, len(text))
			}
		}
	}
}

// P8.2: where a tag isn't one.
func TestNextTag(t *testing.T) {
	for _, s := range []string{
		"0", "00", "0=", "0=a\x01", "00=a\x01", "035=D\x01", "01=a\x01", "000001=a\x01",
		"-1=a\x01", "+1=a\x01", "-", "+", " 1=a\x01", " ", "\t1=a\x01", "1 =a\x01", "1 ", "1+", "1-=a\x01",
		"x", "x1=a\x01", "1x", "1x=a\x01", "12x", "12345x", "1.0=a\x01", "1_0=a\x01", "0x1=a\x01", "1e1=a\x01", "A=a\x01",
		"=", "=a\x01", "==", "\x01", "\x011=a\x01", "1\x01", "1\x01=a\x01", "12345\x01",
		"/", ":", "1/", "1:", "9:=a\x01", "1\x00", "1\xff", "\xff", "\x80", "1\x80", "é", "1é=a\x01", "\u0661=a\x01", "1\u0661=a\x01", "１=a\x01", "1\ufffd",
		"100000", "100000=", "100000=a\x01", "999990", "999999=a\x01", "123456", "99999x", "999990=a\x01", "1000000", "1000001=a\x01",
		// So many that they would come round to a tag in 16, 32 or 64 bits.
		"131107=a\x01", "4294967297=a\x01", "4294967331=a\x01", "18446744073709551617=a\x01", "18446744073709551651=a\x01", "9223372036854775808=a\x01",
		strings.Repeat("9", 100), strings.Repeat("1", 1<<16), strings.Repeat("1", 1<<16) + "=a\x01",
	} {
		wantNoNext(t, s, api.ErrTag)
	}
}

// P8.2: each byte where a digit or the sign should be.
func TestNextEachByte(t *testing.T) {
	for i := range 256 {
		s := string([]byte{byte(i)})
		digit := s >= "0" && s <= "9"
		for _, rest := range []string{"", "=a\x01"} {
			for _, digits := range []string{"", "1", "10", "999", "9999", "99999"} {
				text := digits + s + rest
				switch {
				case digits == "" && (!digit || s == "0"), digits == "99999" && s != "=", !digit && s != "=":
					wantNoNext(t, text, api.ErrTag)
				case rest == "":
					wantNoNext(t, text, api.ErrOpen)
				case s == "=":
					wantNext(t, text, number(t, digits), "=a", len(text))
				default:
					wantNext(t, text, number(t, digits+s), "a", len(text))
				}
			}
		}
	}
}

func number(t *testing.T, digits string) int {
	t.Helper()
	n, err := strconv.Atoi(digits)
	if err != nil {
		t.Fatal(err)
	}
	return n
}

// P8.2: where a value isn't one, with its end and without.
func TestNextValue(t *testing.T) {
	for _, number := range tags() {
		begin := strconv.Itoa(number) + "="
		for _, s := range []string{"\x01", "\x01\x01", "\x01a", "\x0111=x\x01"} {
			wantNoNext(t, begin+s, api.ErrValue)
		}
		for _, value := range slices.Concat(spoilt(), tooLong()) {
			wantNoNext(t, begin+value+"\x01", api.ErrValue)
			wantNoNext(t, begin+value, api.ErrValue)
			wantNoNext(t, begin+value+"\x0111=x\x01", api.ErrValue)
		}
	}
}

// P8.2: where a text ends too early: ahead of all, within the digits, behind the sign, within the value.
func TestNextOpen(t *testing.T) {
	wantNoNext(t, "", api.ErrOpen)
	for _, number := range tags() {
		digits := strconv.Itoa(number)
		for n := range digits {
			wantNoNext(t, digits[:n], api.ErrOpen)
		}
		wantNoNext(t, digits, api.ErrOpen)
		wantNoNext(t, digits+"=", api.ErrOpen)
		for _, value := range values() {
			wantNoNext(t, digits+"="+value, api.ErrOpen)
		}
	}
}

// P8.2: which of two errors is told: the one further to the left; none is told of what lies behind a field's end.
func TestNextTwoErrors(t *testing.T) {
	long := strings.Repeat("a", api.MaxValue)
	for s, e := range map[string]api.Errno{
		"0=\x01": api.ErrTag, "0=\x1f": api.ErrTag, "x=\xff\x01": api.ErrTag, "100000=\x01": api.ErrTag, "100000=" + long + "a": api.ErrTag, "1x=\x7f": api.ErrTag,
		"=\x01": api.ErrTag, "=": api.ErrTag, "0": api.ErrTag, "1x": api.ErrTag, "123456": api.ErrTag, "00000000": api.ErrTag, "\xff": api.ErrTag,
		"1=\x01x": api.ErrValue, "1=\x01" + "0=a\x01": api.ErrValue, "1=\x1f": api.ErrValue, "1=a\x7f": api.ErrValue, "1=" + long + "a": api.ErrValue, "1=a\x1f\x01" + "0=": api.ErrValue,
		"1=" + long + "\x1f": api.ErrValue, "1=" + long + "\xff": api.ErrValue, "1=" + long + "é": api.ErrValue, "1=" + long[1:] + "é": api.ErrValue, "1=" + long[1:] + "\xc3": api.ErrValue,
		"1=" + long: api.ErrOpen, "1=" + long[1:]: api.ErrOpen, "99999": api.ErrOpen, "99999=": api.ErrOpen,
	} {
		wantNoNext(t, s, e)
	}
	wantNext(t, "1="+long+"\x01\xff", 1, long, api.MaxValue+3)
	wantNext(t, "1=a\x010=", 1, "a", 4)
}

// plain is what the document asks of Next, told by expressions: which texts are a field's form with anything behind it, and which are a beginning of one.
type plain struct {
	whole, begun, tagged *regexp.Regexp
}

func newPlain() plain {
	const digits, inValue = `[1-9][0-9]{0,4}`, `[^\x00-\x1f\x7f\x{fffd}]`
	return plain{
		whole:  regexp.MustCompile(`^(` + digits + `)=(` + inValue + `+)\x01`),
		begun:  regexp.MustCompile(`^(` + digits + `(=` + inValue + `*)?)?$`),
		tagged: regexp.MustCompile(`^` + digits + `=`),
	}
}

// next knows nothing of MaxValue: it is asked of shorter texts alone.
func (p plain) next(s string) (f api.Field, n int, e api.Errno) {
	if parts := p.whole.FindStringSubmatch(s); parts != nil {
		number, _ := strconv.Atoi(parts[1])
		return api.Field{Tag: number, Value: parts[2]}, len(parts[0]), api.OK
	}
	switch {
	case p.begun.MatchString(s):
		return api.Field{}, 0, api.ErrOpen
	case p.tagged.MatchString(s):
		return api.Field{}, 0, api.ErrValue
	}
	return api.Field{}, 0, api.ErrTag
}

// fields goes from one field to the next.
func (p plain) fields(s string) (list []api.Field, at int, e api.Errno) {
	for s[at:] != "" && len(list) < api.MaxFields {
		f, n, e := p.next(s[at:])
		if e != api.OK {
			return list, at, e
		}
		list, at = append(list, f), at+n
	}
	if s[at:] != "" {
		return list, at, api.ErrBig
	}
	return list, at, api.OK
}

func wantPlain(t *testing.T, p plain, s string) {
	t.Helper()
	f, n, e := p.next(s)
	if e == api.OK {
		wantNext(t, s, f.Tag, f.Value, n)
		// There is one form of each field: what was read is formed as the same bytes.
		wantForm(t, f.Tag, f.Value, s[:n], api.OK)
	} else {
		wantNoNext(t, s, e)
	}
	list, at, e := p.fields(s)
	wantFields(t, s, list, at, e)
	wantForms(t, list, s[:at], api.OK)
}

// P8.2, P8.3, P8.4: all short texts of the bytes that matter.
func TestAllShort(t *testing.T) {
	p := newPlain()
	bytes := "0" + "1" + "=" + "\x01" + "a" + "\xc3" + "\xa9" + "\x1f"
	texts := []string{""}
	for range 6 {
		var longer []string
		for _, s := range texts {
			wantPlain(t, p, s)
			for i := range len(bytes) {
				longer = append(longer, s+bytes[i:i+1])
			}
		}
		texts = longer
	}
	for _, s := range texts {
		wantPlain(t, p, s)
		wantPlain(t, p, "1="+s)
		wantPlain(t, p, "1=a\x01"+s)
	}
}

// P8.2, P8.3, P8.4: longer texts of pieces in a mixed order, the same one each time.
func TestMixed(t *testing.T) {
	p := newPlain()
	x := uint64(88172645463325252)
	next := func(n int) int {
		x ^= x << 13
		x ^= x >> 7
		x ^= x << 17
		return int(x>>1) % n
	}
	good := []string{"1", "35", "99999", "=", "=", "\x01", "\x01", "a", "é", "€", "😀", " ", "7=b\x01", "8=c\x01"}
	bad := []string{"0", "100000", "\x00", "\x1f", "\x7f", "\xff", "\xc3", "\xa9", "\ufffd"}
	told := map[api.Errno]int{}
	for range 60000 {
		s := ""
		for range next(30) {
			if next(40) == 0 {
				s += bad[next(len(bad))]
			} else {
				s += good[next(len(good))]
			}
		}
		wantPlain(t, p, s)
		_, _, e := tag.Fields(s)
		told[e]++
	}
	for _, e := range []api.Errno{api.OK, api.ErrTag, api.ErrValue, api.ErrOpen} {
		if told[e] < 100 {
			t.Errorf("%d is told %d times: the texts are too tame", e, told[e])
		}
	}
}

// P8.3: no field, one, and all up to the end, with that place.
func TestFields(t *testing.T) {
	wantFields(t, "", nil, 0, api.OK)
	wantFields(t, "35=D\x01", []api.Field{{Tag: 35, Value: "D"}}, 5, api.OK)
	wantFields(t, "35=D\x0111=x=y\x0135=D\x01", []api.Field{{Tag: 35, Value: "D"}, {Tag: 11, Value: "x=y"}, {Tag: 35, Value: "D"}}, 17, api.OK)
	for many := range api.MaxFields + 1 {
		list := fields(many)
		s := formsOf(list)
		wantFields(t, s, list, len(s), api.OK)
	}
}

// wrongs are texts that are no field, and what is told of them.
func wrongs() map[string]api.Errno {
	long := strings.Repeat("a", api.MaxValue)
	return map[string]api.Errno{
		"0": api.ErrTag, "x": api.ErrTag, "=a\x01": api.ErrTag, "\x01": api.ErrTag, " ": api.ErrTag, "01=a\x01": api.ErrTag, "100000=a\x01": api.ErrTag, "\xff": api.ErrTag, "1x=a\x01": api.ErrTag,
		"3=\x01": api.ErrValue, "3=a\x1f\x01": api.ErrValue, "3=\xff": api.ErrValue, "3=" + long + "a\x01": api.ErrValue, "3=é\xc3": api.ErrValue,
		"3": api.ErrOpen, "99999": api.ErrOpen, "3=": api.ErrOpen, "3=a": api.ErrOpen, "3=" + long: api.ErrOpen,
	}
}

// P8.3: the first field that isn't right, behind none, some, and all that may be: there it is too much, whatever it is. The list stays, and the place is where that one begins.
func TestFieldsRefuses(t *testing.T) {
	for many := range api.MaxFields + 1 {
		list := fields(many)
		s := formsOf(list)
		for wrong, e := range wrongs() {
			if many == api.MaxFields {
				e = api.ErrBig
			}
			wantFields(t, s+wrong, list, len(s), e)
			if e != api.ErrOpen {
				// An open one would go on in what is behind it.
				wantFields(t, s+wrong+"7=b\x01", list, len(s), e)
				wantFields(t, s+wrong+"\x01", list, len(s), e)
			}
		}
	}
}

// P8.3: one field more than may be, many more, and a wrong one behind them.
func TestFieldsTooMany(t *testing.T) {
	for _, more := range []int{1, 2, api.MaxFields, 1000} {
		list := fields(api.MaxFields + more)
		s := formsOf(list)
		at := len(formsOf(list[:api.MaxFields]))
		wantFields(t, s, list[:api.MaxFields], at, api.ErrBig)
		for wrong := range wrongs() {
			wantFields(t, s+wrong, list[:api.MaxFields], at, api.ErrBig)
		}
	}
}

// Rule 4: what Fields hands out is new memory, its spare room too; what is done to it is not to be seen in another answer.
func TestFieldsNewMemory(t *testing.T) {
	for _, many := range []int{1, 3, 5, api.MaxFields - 1} {
		list := fields(many)
		s := formsOf(list)
		first, _, _ := tag.Fields(s)
		first = first[:cap(first)]
		for i := range first {
			first[i] = api.Field{Tag: -1, Value: "spoilt"}
		}
		wantFields(t, s, list, len(s), api.OK)
		wantFields(t, s+"3", list, len(s), api.ErrOpen)
	}
}

// P8.4: what was formed is read as it was, and formed again as the same bytes.
func TestFormedIsRead(t *testing.T) {
	for _, number := range tags() {
		for _, value := range values() {
			s := form(t, number, value)
			wantNext(t, s, number, value, len(s))
			wantFields(t, s, []api.Field{{Tag: number, Value: value}}, len(s), api.OK)
		}
	}
	for many := range api.MaxFields + 1 {
		list := fields(many)
		s, e := tag.Forms(list)
		if e != api.OK {
			t.Fatalf("Forms of %d: %d", many, e)
		}
		wantFields(t, s, list, len(s), api.OK)
	}
}

// P8.4: two fields that are not the same have forms that are not the same, and none is the beginning of another one.
func TestOneForm(t *testing.T) {
	short := []string{"a", "=", "==", "a=", "=a", "1=a", "é", " ", "  ", "aa", "1", "11"}
	var forms []string
	for _, number := range []int{1, 11, 111, 11111, 2, 10, 99999} {
		for _, value := range short {
			forms = append(forms, form(t, number, value))
		}
	}
	for i, a := range forms {
		for j, b := range forms {
			if i != j && strings.HasPrefix(b, a) {
				t.Errorf("%q begins with %q", b, a)
			}
		}
	}
}

// P8.4: one form, cut off between two runes, is open; within a rune its value has bytes out of place.
func TestCutField(t *testing.T) {
	for _, number := range []int{1, 35, api.MaxTag} {
		for _, value := range values() {
			s := form(t, number, value)
			for n := range len(s) {
				asked := api.ErrOpen
				if !utf8.ValidString(s[:n]) {
					asked = api.ErrValue
				}
				wantNoNext(t, s[:n], asked)
			}
		}
	}
}

// P8.4: several forms, cut off between two runes: between two fields nothing is wrong, within one it is open; those ahead of it are read as they were.
func TestCutFields(t *testing.T) {
	for _, many := range []int{1, 2, 5, api.MaxFields} {
		list := fields(many)
		s := formsOf(list)
		whole, at := 0, 0
		for n := range s { // a range stops between two runes alone
			if whole < many && n == at+len(formsOf(list[whole:whole+1])) {
				whole, at = whole+1, n
			}
			asked := api.ErrOpen
			if n == at {
				asked = api.OK
			}
			wantFields(t, s[:n], list[:whole], at, asked)
		}
	}
}
