package ask_test

import (
	"slices"
	"strconv"
	"strings"
	"testing"

	"spigot/api"
	"spigot/ask"
)

// P12.2: layer 11's errors of Read, beside 0, also ahead of all that would be this layer's.
func TestDecodeRead(t *testing.T) {
	long := strings.Repeat("a", api.MaxValue)
	wantRefused(t, "", 0, api.ErrMissing)
	full := ""
	for i := range api.MaxFields {
		full += strconv.Itoa(i+35) + "=1\x01"
	}
	starts := []string{"", text("35=Z"), text("35=F"), text("35=F", "11=a b"), text("11=a"), text("35=F", "35=F")}
	for _, g := range goods() {
		starts = append(starts, text(g.fields...))
	}
	for e, list := range map[api.Errno][]string{
		api.ErrTag:   {"x", "=", "\x01", "\x00", "\xff", "035=D\x01", "0=D\x01", "35\x01", "100000=a\x01", "-1=a\x01"},
		api.ErrValue: {"99=\x01", "99=\x00\x01", "99=\x7f\x01", "99=\xff\x01", "99=" + long + "a\x01"},
		api.ErrOpen:  {"9", "99", "99=", "99=a", "99=" + long},
		api.ErrBig:   {full + "9=a\x01", full + "x", full + full},
	} {
		for _, s := range list {
			for _, start := range starts {
				if start != "" && e == api.ErrBig {
					continue
				}
				wantRefused(t, start+s, 0, e)
			}
		}
	}
	for _, g := range goods() {
		s := text(g.fields...)
		for at := range g.fields[1:] {
			// What lacks 35 in front.
			moved := append([]string{}, g.fields[1:]...)
			wantRefused(t, text(slices.Insert(moved, at+1, g.fields[0])...), 0, api.ErrMissing)
		}
		wantRefused(t, text(g.fields[1:]...), 0, api.ErrMissing)
		wantRefused(t, s[:len(s)-1], 0, api.ErrOpen)
	}
}

// P12.2: each field of each kind met twice, with the same value and with another one, side by side and far apart.
func TestDecodeTwice(t *testing.T) {
	for _, g := range goods() {
		for _, field := range g.fields {
			number, _, _ := strings.Cut(field, "=")
			for _, twin := range []string{field, number + "=other", number + "=1", number + "=a b"} {
				for at := 1; at <= len(g.fields); at++ {
					wantRefused(t, text(slices.Insert(slices.Clone(g.fields), at, twin)...), 0, api.ErrRepeat)
				}
			}
		}
	}
}

// P12.2: of all values of one or two bytes just five are kinds; ErrType stands ahead of all fields.
func TestDecodeType(t *testing.T) {
	kinds := []string{"D", "F", "G", "UP", "UR"}
	try := func(value string) {
		for _, rest := range [][]string{nil, {"11=b", "41=a"}, {"11=a b"}, {"99=x"}, goods()[0].fields[1:], goods()[5].fields[1:]} {
			fields := append([]string{"35=" + value}, rest...)
			if !slices.Contains(kinds, value) {
				wantRefused(t, text(fields...), 35, api.ErrType)
			} else if _, at, e := ask.Decode(text(fields...)); at == 35 || e == api.ErrType {
				t.Fatalf("Decode(%q): %d, %d", text(fields...), at, e)
			}
		}
	}
	for c := rune(' '); c < 127; c++ {
		try(string(c))
		for d := rune(' '); d < 127; d++ {
			try(string(c) + string(d))
		}
	}
	for _, value := range []string{"D ", "DD", "UPP", "UUR", "UP ", "U P", "É", "Ｄ", "35", "35=D", "1", "5", "0", "DFG", "D,F", "UPUR", strings.Repeat("D", api.MaxValue)} {
		try(value)
	}
}

// P12.2: each field of each kind missing; the first one in the table's order is told.
func TestDecodeMissing(t *testing.T) {
	for _, g := range goods() {
		for at := 1; at < len(g.fields); at++ {
			wantRefused(t, text(slices.Delete(slices.Clone(g.fields), at, at+1)...), tagOf(g.fields[at]), api.ErrMissing)
			wantRefused(t, text(g.fields[:at]...), tagOf(g.fields[at]), api.ErrMissing)
			// Ahead of a field too much.
			wantRefused(t, text(append(g.fields[:at:at], "99=x")...), tagOf(g.fields[at]), api.ErrMissing)
		}
	}
}

// tagOf is the tag of a field that is written as `35=D`.
func tagOf(field string) int {
	number, _, _ := strings.Cut(field, "=")
	tag, _ := strconv.Atoi(number)
	return tag
}

// bad is a value that a field may not have, and the error.
type bad struct {
	value string
	e     api.Errno
}

// outside are numbers about two ends, and texts that are no numbers.
func outside(low, high int) []bad {
	list := []bad{
		{strconv.Itoa(high + 1), api.ErrArg}, {strconv.Itoa(greatestInt), api.ErrArg}, {strconv.Itoa(1<<62 + low), api.ErrArg},
		{"-1", api.ErrForm}, {"01", api.ErrForm}, {"00", api.ErrForm}, {"+1", api.ErrForm}, {" 1", api.ErrForm}, {"1 ", api.ErrForm}, {"1.0", api.ErrForm}, {"a", api.ErrForm}, {"1a", api.ErrForm}, {"0x1", api.ErrForm}, {"1,1", api.ErrForm}, {"1_0", api.ErrForm}, {"１", api.ErrForm}, {"=", api.ErrForm}, {"9223372036854775808", api.ErrForm}, {"18446744073709551617", api.ErrForm},
	}
	if low > 0 {
		list = append(list, bad{strconv.Itoa(low - 1), api.ErrArg})
	}
	return list
}

// bads are values that the field of a tag may not have.
func bads(tag int) []bad {
	switch tag {
	case 1, 11, 41, 55:
		return []bad{{" ", api.ErrName}, {"a b", api.ErrName}, {"=", api.ErrName}, {"a=b", api.ErrName}, {strings.Repeat("a", 21), api.ErrName}, {strings.Repeat("😀", 21), api.ErrName}}
	case 54:
		return outside(1, 2)
	case 5001:
		return outside(1, 4)
	case 38, 44, 5005:
		return outside(1, 1<<40)
	case 5002, 5003:
		return outside(0, 1<<40)
	case 5004:
		return outside(1, 10000)
	case 5006:
		return []bad{
			{"-1", api.ErrForm}, {"01", api.ErrForm}, {",", api.ErrForm}, {"1,", api.ErrForm}, {",1", api.ErrForm}, {"1,,1", api.ErrForm}, {"1, 1", api.ErrForm}, {"1;1", api.ErrForm}, {"a", api.ErrForm}, {"1,9223372036854775808", api.ErrForm},
			{"1048577", api.ErrArg}, {"1,1048577", api.ErrArg}, {"1048577,1", api.ErrArg}, {"9223372036854775807", api.ErrArg},
			{strings.Repeat("1,", 64) + "1", api.ErrBig}, {strings.Repeat("0,", 64) + "0", api.ErrBig}, {strings.Repeat("1,", 64) + "1048577", api.ErrBig}, {strings.Repeat("1,", 64) + "01", api.ErrForm},
		}
	}
	return nil
}

// P12.2: each field of each kind not of its form and out of its ends.
func TestDecodeBad(t *testing.T) {
	for _, g := range goods() {
		for at := 1; at < len(g.fields); at++ {
			tag := tagOf(g.fields[at])
			list := bads(tag)
			if len(list) == 0 {
				t.Fatalf("no bad values of %d", tag)
			}
			for _, one := range list {
				fields := slices.Clone(g.fields)
				fields[at] = strconv.Itoa(tag) + "=" + one.value
				wantRefused(t, text(fields...), tag, one.e)
				// Ahead of a field too much.
				wantRefused(t, text(slices.Insert(fields, 1, "99=x")...), tag, one.e)
			}
		}
	}
}

// P12.2: of any two fields that are bad or missing the one that the table has first is told, in whichever order the body has them.
func TestDecodeFirst(t *testing.T) {
	for _, g := range goods() {
		for first := 1; first < len(g.fields); first++ {
			for second := first + 1; second < len(g.fields); second++ {
				tag := tagOf(g.fields[first])
				fields := slices.Clone(g.fields)
				fields[second] = strconv.Itoa(tagOf(g.fields[second])) + "=a b"
				for _, one := range bads(tag) {
					fields[first] = strconv.Itoa(tag) + "=" + one.value
					wantRefused(t, text(fields...), tag, one.e)
					turned := slices.Clone(fields)
					slices.Reverse(turned[1:])
					wantRefused(t, text(turned...), tag, one.e)
				}
				wantRefused(t, text(slices.Delete(fields, first, first+1)...), tag, api.ErrMissing)
			}
		}
	}
}

// P12.2: one field too much, in front, in the middle and at the end: of other kinds, of other algorithms, and of none; of two the first in the body is told.
func TestDecodeSpare(t *testing.T) {
	for _, g := range goods() {
		used := []int{}
		for _, field := range g.fields {
			used = append(used, tagOf(field))
		}
		for _, tag := range []int{1, 11, 38, 41, 44, 54, 55, 5001, 5002, 5003, 5004, 5005, 5006, 8, 9, 10, 34, 99, 5000, 5007, 99999} {
			if slices.Contains(used, tag) {
				continue
			}
			for at := 1; at <= len(g.fields); at++ {
				fields := slices.Insert(slices.Clone(g.fields), at, strconv.Itoa(tag)+"=1")
				wantRefused(t, text(fields...), tag, api.ErrSpare)
				wantRefused(t, text(append(fields, "77=1")...), tag, api.ErrSpare)
				wantRefused(t, text(slices.Insert(fields, 1, "77=1")...), 77, api.ErrSpare)
			}
		}
	}
}

// P12.2: the order of the fields behind 35 doesn't matter.
func TestDecodeOrder(t *testing.T) {
	for _, g := range goods() {
		for first := 1; first < len(g.fields); first++ {
			for second := 1; second < len(g.fields); second++ {
				fields := slices.Clone(g.fields)
				fields[first], fields[second] = fields[second], fields[first]
				wantAsk(t, text(fields...), g.ask)
				slices.Reverse(fields[1:])
				wantAsk(t, text(fields...), g.ask)
			}
			turned := append(append([]string{g.fields[0]}, g.fields[first:]...), g.fields[1:first]...)
			wantAsk(t, text(turned...), g.ask)
		}
	}
}

// P12.2: each number at its ends.
func TestDecodeEnds(t *testing.T) {
	for _, g := range goods() {
		for _, n := range numbers() {
			if !n.used(g.ask) {
				continue
			}
			for _, value := range []int{n.low, n.low + 1, n.high - 1, n.high} {
				asked := g.ask
				*n.at(&asked) = value
				wantAsk(t, text(replaced(g.fields, n.tag, strconv.Itoa(value))...), asked)
			}
		}
		for _, n := range names() {
			if !n.used(g.ask) {
				continue
			}
			for _, value := range []string{"a", "!", "é", "0", strings.Repeat("a", 20), strings.Repeat("😀", 20)} {
				asked := g.ask
				*n.at(&asked) = value
				wantAsk(t, text(replaced(g.fields, n.tag, value)...), asked)
			}
		}
	}
	amend := goods()[5]
	for _, end := range []int{0, 1, 1 << 30, 1<<30 + 1, 1 << 40} {
		asked := amend.ask
		asked.End = end
		wantAsk(t, text(replaced(amend.fields, "5003", strconv.Itoa(end))...), asked)
	}
}

// replaced are fields of which one has another value.
func replaced(fields []string, tag, value string) []string {
	list := slices.Clone(fields)
	for i, field := range list {
		if strings.HasPrefix(field, tag+"=") {
			list[i] = tag + "=" + value
		}
	}
	return list
}

// P12.2: ErrTime beside 5003, behind Done.
func TestDecodeTime(t *testing.T) {
	const most, span = 1 << 40, 1 << 30
	for _, g := range goods()[:4] {
		try := func(start, end int) []string {
			return replaced(replaced(g.fields, "5002", strconv.Itoa(start)), "5003", strconv.Itoa(end))
		}
		for _, pair := range [][2]int{{0, 1}, {0, span}, {7, 8}, {7, 7 + span}, {most - 1, most}, {most - span, most}} {
			asked := g.ask
			asked.Start, asked.End = pair[0], pair[1]
			wantAsk(t, text(try(pair[0], pair[1])...), asked)
		}
		for _, pair := range [][2]int{{0, 0}, {1, 0}, {7, 7}, {7, 6}, {0, span + 1}, {7, 8 + span}, {0, most}, {most, most}, {most, 0}, {most - span - 1, most}, {0, 1<<32 + 1}} {
			fields := try(pair[0], pair[1])
			wantRefused(t, text(fields...), 5003, api.ErrTime)
			turned := slices.Clone(fields)
			slices.Reverse(turned[1:])
			wantRefused(t, text(turned...), 5003, api.ErrTime)
			wantRefused(t, text(append(fields, "99=x")...), 99, api.ErrSpare)
			wantRefused(t, text(fields[:len(fields)-1]...), tagOf(fields[len(fields)-1]), api.ErrMissing)
		}
	}
}

// P12.2: ErrCurve beside 5006, behind Done and ErrTime.
func TestDecodeCurve(t *testing.T) {
	vwap := goods()[1]
	for _, weights := range rightCurves() {
		asked := vwap.ask
		asked.Curve = weights
		wantAsk(t, text(replaced(vwap.fields, "5006", commas(weights))...), asked)
	}
	for count := 1; count <= api.MaxBuckets; count++ {
		fields := replaced(vwap.fields, "5006", commas(make([]int, count)))
		wantRefused(t, text(fields...), 5006, api.ErrCurve)
		turned := slices.Clone(fields)
		slices.Reverse(turned[1:])
		wantRefused(t, text(turned...), 5006, api.ErrCurve)
		wantRefused(t, text(slices.Insert(turned, 1, "99=x")...), 99, api.ErrSpare)
		wantRefused(t, text(replaced(fields, "5003", "3")...), 5003, api.ErrTime)
		wantRefused(t, text(replaced(fields, "5003", strconv.Itoa(4+api.MaxSpan))...), 5003, api.ErrTime)
	}
}

// commas are numbers as a field's value.
func commas(list []int) string {
	parts := []string{}
	for _, n := range list {
		parts = append(parts, strconv.Itoa(n))
	}
	return strings.Join(parts, ",")
}

// What is handed out is new memory each time, its spare room too.
func TestNothingIsShared(t *testing.T) {
	s := text(newFields("2", "5006=1,2,3")...)
	first, _, _ := ask.Decode(s)
	second, _, _ := ask.Decode(s)
	spare := first.Curve[:cap(first.Curve)]
	for i := range spare {
		spare[i] = -1
	}
	_ = append(first.Curve, 9, 9, 9)
	if !slices.Equal(second.Curve, []int{1, 2, 3}) {
		t.Fatal(second.Curve)
	}
	third, at, e := ask.Decode(s)
	if !slices.Equal(third.Curve, []int{1, 2, 3}) || at != 0 || e != api.OK {
		t.Fatal(third, at, e)
	}
	encoded, _ := ask.Encode(second)
	second.Curve[0] = 9
	if encoded != s {
		t.Fatalf("%q", encoded)
	}
}
