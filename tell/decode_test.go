package tell_test

import (
	"slices"
	"strconv"
	"strings"
	"testing"

	"spigot/api"
	"spigot/tell"
)

// form is a field that is written as `35=8`.
func form(tag int, value string) string {
	return strconv.Itoa(tag) + "=" + value
}

// tagOf is the tag of a field that is written as `35=8`.
func tagOf(field string) int {
	number, _, _ := strings.Cut(field, "=")
	tag, _ := strconv.Atoi(number)
	return tag
}

// turned are fields of which those behind 35 stand the other way round.
func turned(fields []string) []string {
	list := slices.Clone(fields)
	slices.Reverse(list[1:])
	return list
}

// P13.2: layer 11's errors of Read, beside 0, also ahead of all that would be this layer's.
func TestDecodeRead(t *testing.T) {
	long := strings.Repeat("a", api.MaxValue)
	wantRefused(t, "", 0, api.ErrMissing)
	full := ""
	for i := range api.MaxFields {
		full += form(i+35, "1") + "\x01"
	}
	for _, s := range []string{full + "9=a\x01", full + "x", full + full, text("35=8") + full + full} {
		wantRefused(t, s, 0, api.ErrBig)
	}
	starts := []string{"", text("35=Z"), text("35=9"), text("35=9", "11=a b"), text("11=a"), text("35=9", "35=9")}
	for _, g := range goods() {
		starts = append(starts, text(g.fields...))
	}
	for e, list := range map[api.Errno][]string{
		api.ErrTag:   {"x", "=", "\x01", "\x00", "\xff", "035=8\x01", "0=8\x01", "35\x01", "100000=a\x01", "-1=a\x01"},
		api.ErrValue: {"99=\x01", "99=\x00\x01", "99=\x7f\x01", "99=\xff\x01", "99=" + long + "a\x01"},
		api.ErrOpen:  {"9", "99", "99=", "99=a", "99=" + long},
	} {
		for _, s := range list {
			for _, start := range starts {
				wantRefused(t, start+s, 0, e)
			}
		}
	}
	for _, g := range goods() {
		s := text(g.fields...)
		for at := range g.fields[1:] {
			moved := slices.Insert(slices.Clone(g.fields[1:]), at+1, g.fields[0])
			wantRefused(t, text(moved...), 0, api.ErrMissing)
		}
		wantRefused(t, text(g.fields[1:]...), 0, api.ErrMissing)
		wantRefused(t, s[:len(s)-1], 0, api.ErrOpen)
		wantRefused(t, "\x01"+s, 0, api.ErrTag)
		wantRefused(t, s+"\x01", 0, api.ErrTag)
	}
}

// P13.2: a body that is cut off anywhere is refused: within a field beside 0, between two of them at the first one that lacks.
func TestDecodeCut(t *testing.T) {
	for _, g := range goods() {
		whole := text(g.fields...)
		for at := 1; at < len(whole); at++ {
			if whole[at-1] != 1 {
				wantRefused(t, whole[:at], 0, api.ErrOpen)
				continue
			}
			lacks := strings.Count(whole[:at], "\x01")
			wantRefused(t, whole[:at], tagOf(g.fields[lacks]), api.ErrMissing)
		}
	}
}

// P13.2: each field of each kind met twice, with the same value and with another one, side by side and far apart.
func TestDecodeTwice(t *testing.T) {
	for _, g := range goods() {
		for _, field := range g.fields {
			for _, twin := range []string{field, form(tagOf(field), "other"), form(tagOf(field), "1"), form(tagOf(field), "a b")} {
				for at := 1; at <= len(g.fields); at++ {
					wantRefused(t, text(slices.Insert(slices.Clone(g.fields), at, twin)...), 0, api.ErrRepeat)
				}
			}
		}
		for at := 1; at <= len(g.fields); at++ {
			fields := slices.Insert(slices.Clone(g.fields), at, "99=x")
			wantRefused(t, text(append(fields, "99=x")...), 0, api.ErrRepeat)
			// Ahead of a kind that is none.
			fields[0] = "35=Z"
			wantRefused(t, text(append(fields, "99=x")...), 0, api.ErrRepeat)
		}
	}
}

// P13.2: of all values of one or two bytes just four are kinds; ErrType stands ahead of all fields.
func TestDecodeType(t *testing.T) {
	kinds := []string{"8", "9", "3", "j"}
	rests := [][]string{nil, {"11=a b"}, {"99=x"}}
	for _, g := range goods() {
		rests = append(rests, g.fields[1:])
	}
	try := func(value string) {
		for _, rest := range rests {
			s := text(append([]string{form(35, value)}, rest...)...)
			if !slices.Contains(kinds, value) {
				wantRefused(t, s, 35, api.ErrType)
			} else if _, at, e := tell.Decode(s); at == 35 || e == api.ErrType {
				t.Fatalf("Decode(%q): %d, %d", s, at, e)
			}
		}
	}
	for c := rune(' '); c < 127; c++ {
		try(string(c))
		for d := rune(' '); d < 127; d++ {
			try(string(c) + string(d))
		}
	}
	for _, value := range []string{"8 ", " 8", "88", "08", "J", "jj", "８", "ｊ", "35", "35=8", "1", "2", "4", "0", "893j", "8,9", "TellReport", strings.Repeat("8", api.MaxValue)} {
		try(value)
	}
}

// P13.2: each kind is told by its own value of 35, whatever the rest would say.
func TestDecodeKinds(t *testing.T) {
	for said, kind := range map[string]int{"3": api.TellReject, "j": api.TellOther} {
		reason := map[string]string{"3": "373=7", "j": "380=7"}[said]
		wantTell(t, text("35="+said, "371=5", reason), api.Tell{Kind: kind, Tag: 5, Reason: 7})
	}
	wantTell(t, text("35=9", "11=a", "39=5", "103=7"), api.Tell{Kind: api.TellCancel, ID: "a", Status: 5, Reason: 7})
	wantTell(t, text("35=8", "11=a", "17=b", "39=5", "32=1", "31=2", "14=3", "151=4", "103=7"), api.Tell{Kind: api.TellReport, ID: "a", Exec: "b", Status: 5, Last: 1, Price: 2, Cum: 3, Leaves: 4, Reason: 7})
}

// P13.2: the reason's tag of one kind is none of another one: its own lacks, and where its own is there as well the other is too much.
func TestDecodeReasons(t *testing.T) {
	own := map[string]int{"8": 103, "9": 103, "3": 373, "j": 380}
	for _, g := range goods() {
		tag := own[g.fields[0][3:]]
		for _, another := range []int{103, 373, 380, 371, 372, 379, 58} {
			if another == tag || slices.ContainsFunc(g.fields, func(f string) bool { return tagOf(f) == another }) {
				continue
			}
			fields := slices.Clone(g.fields)
			fields[len(fields)-1] = form(another, "112")
			wantRefused(t, text(fields...), tag, api.ErrMissing)
			wantRefused(t, text(append(fields, form(tag, "1"))...), another, api.ErrSpare)
			wantRefused(t, text(append(fields, form(tag, "1000"))...), tag, api.ErrArg)
		}
	}
}

// P13.2: each field of each kind missing; the first one in the table's order is told.
func TestDecodeMissing(t *testing.T) {
	for _, g := range goods() {
		for at := 1; at < len(g.fields); at++ {
			tag := tagOf(g.fields[at])
			left := slices.Delete(slices.Clone(g.fields), at, at+1)
			wantRefused(t, text(left...), tag, api.ErrMissing)
			wantRefused(t, text(turned(left)...), tag, api.ErrMissing)
			wantRefused(t, text(g.fields[:at]...), tag, api.ErrMissing)
			// Ahead of a field too much.
			wantRefused(t, text(append(g.fields[:at:at], "99=x")...), tag, api.ErrMissing)
			wantRefused(t, text(slices.Insert(left, 1, "99=x")...), tag, api.ErrMissing)
		}
	}
}

// bad is a value that a field may not have, and the error.
type bad struct {
	value string
	e     api.Errno
}

// bads are values that the field of a tag may not have.
func bads(tag int) []bad {
	if tag == 11 || tag == 17 {
		return []bad{{" ", api.ErrName}, {"a b", api.ErrName}, {"=", api.ErrName}, {"a=b", api.ErrName}, {"a ", api.ErrName}, {strings.Repeat("a", 21), api.ErrName}, {strings.Repeat("😀", 21), api.ErrName}, {strings.Repeat("a", api.MaxValue), api.ErrName}}
	}
	high := highOf(tag)
	list := []bad{{strconv.Itoa(high + 1), api.ErrArg}, {strconv.Itoa(high + 1<<32), api.ErrArg}, {strconv.Itoa(1 << 62), api.ErrArg}, {strconv.Itoa(greatestInt), api.ErrArg}}
	for _, value := range []string{"-1", "-0", "01", "00", "+1", " 1", "1 ", "1.0", "a", "1a", "0x1", "1,1", "1_0", "１", "=", "9223372036854775808", "18446744073709551616", "18446744073709551617", strings.Repeat("0", api.MaxValue), strings.Repeat("9", api.MaxValue)} {
		list = append(list, bad{value, api.ErrForm})
	}
	return list
}

// highOf is the greatest number that the field of a tag may have.
func highOf(tag int) int {
	switch tag {
	case 39:
		return 9
	case 103, 373, 380:
		return 999
	case 371:
		return 99999
	}
	return 1 << 40
}

// P13.2: each field of each kind not of its form and out of its ends.
func TestDecodeBad(t *testing.T) {
	for _, g := range goods() {
		for at := 1; at < len(g.fields); at++ {
			tag := tagOf(g.fields[at])
			for _, one := range bads(tag) {
				fields := slices.Clone(g.fields)
				fields[at] = form(tag, one.value)
				wantRefused(t, text(fields...), tag, one.e)
				wantRefused(t, text(turned(fields)...), tag, one.e)
				// Ahead of a field too much.
				wantRefused(t, text(slices.Insert(fields, 1, "99=x")...), tag, one.e)
			}
		}
	}
}

// P13.2: of any two fields that are bad or missing the one that the table has first is told, in whichever order the body has them.
func TestDecodeFirst(t *testing.T) {
	for _, g := range goods() {
		for first := 1; first < len(g.fields); first++ {
			for second := first + 1; second < len(g.fields); second++ {
				tag := tagOf(g.fields[first])
				fields := slices.Clone(g.fields)
				fields[second] = form(tagOf(g.fields[second]), "a b")
				for _, one := range bads(tag) {
					fields[first] = form(tag, one.value)
					wantRefused(t, text(fields...), tag, one.e)
					wantRefused(t, text(turned(fields)...), tag, one.e)
					// Also ahead of one that lacks.
					left := slices.Delete(slices.Clone(fields), second, second+1)
					wantRefused(t, text(left...), tag, one.e)
				}
				left := slices.Delete(fields, first, first+1)
				wantRefused(t, text(left...), tag, api.ErrMissing)
				wantRefused(t, text(turned(left)...), tag, api.ErrMissing)
			}
		}
	}
}

// P13.2: one field too much, in front, in the middle and at the end: of other kinds, and of none; of two the first in the body is told.
func TestDecodeSpare(t *testing.T) {
	for _, g := range goods() {
		used := []int{}
		for _, field := range g.fields {
			used = append(used, tagOf(field))
		}
		for _, tag := range []int{11, 14, 17, 31, 32, 39, 103, 151, 371, 373, 380, 1, 8, 9, 10, 34, 36, 37, 38, 41, 44, 54, 55, 58, 99, 372, 5001, 99999} {
			if slices.Contains(used, tag) {
				continue
			}
			for at := 1; at <= len(g.fields); at++ {
				for _, value := range []string{"1", "0", "a b"} {
					fields := slices.Insert(slices.Clone(g.fields), at, form(tag, value))
					wantRefused(t, text(fields...), tag, api.ErrSpare)
					wantRefused(t, text(append(fields, "77=1")...), tag, api.ErrSpare)
					wantRefused(t, text(slices.Insert(fields, 1, "77=1")...), 77, api.ErrSpare)
				}
			}
		}
	}
}

// P13.2: as many fields too much as a body has room for.
func TestDecodeFull(t *testing.T) {
	for _, g := range goods() {
		fields := slices.Clone(g.fields)
		for tag := 1000; len(fields) < api.MaxFields; tag++ {
			fields = append(fields, form(tag, "x"))
		}
		wantRefused(t, text(fields...), 1000, api.ErrSpare)
		wantRefused(t, text(turned(fields)...), 1000+api.MaxFields-len(g.fields)-1, api.ErrSpare)
		wantRefused(t, text(append(fields, "9=x")...), 0, api.ErrBig)
	}
}

// P13.2: the fields behind 35 may stand in any order.
func TestDecodeOrder(t *testing.T) {
	for _, g := range goods() {
		for _, order := range orders(g.fields[1:]) {
			wantTell(t, text(append([]string{g.fields[0]}, order...)...), g.tell)
		}
	}
}

// orders are all orders of a list.
func orders(list []string) [][]string {
	if len(list) == 0 {
		return [][]string{nil}
	}
	all := [][]string{}
	for i, first := range list {
		for _, rest := range orders(slices.Delete(slices.Clone(list), i, i+1)) {
			all = append(all, append([]string{first}, rest...))
		}
	}
	return all
}

// P13.2: each number and each name at its ends.
func TestDecodeEnds(t *testing.T) {
	for _, g := range goods() {
		for _, n := range numbers() {
			if !n.used(g.tell) {
				continue
			}
			for _, value := range []int{0, 1, 2, n.high - 1, n.high} {
				asked := g.tell
				*n.at(&asked) = value
				wantTell(t, text(replaced(g.fields, n.tag(g.tell.Kind), strconv.Itoa(value))...), asked)
			}
			wantRefused(t, text(replaced(g.fields, n.tag(g.tell.Kind), strconv.Itoa(n.high+1))...), n.tag(g.tell.Kind), api.ErrArg)
		}
		for _, n := range names() {
			if !n.used(g.tell) {
				continue
			}
			for _, value := range goodNames() {
				asked := g.tell
				*n.at(&asked) = value
				wantTell(t, text(replaced(g.fields, n.tag, value)...), asked)
			}
		}
	}
}
