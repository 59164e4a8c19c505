package post_test

import (
	"slices"
	"strconv"
	"strings"
	"testing"

	"spigot/api"
)

// turned are fields of which those behind 35 stand the other way round.
func turned(fields []string) []string {
	list := slices.Clone(fields)
	slices.Reverse(list[1:])
	return list
}

// put are fields with one more at a place, without are those with one less.
func put(fields []string, at int, field string) []string {
	return slices.Insert(slices.Clone(fields), at, field)
}

func without(fields []string, at int) []string {
	return slices.Delete(slices.Clone(fields), at, at+1)
}

// wrongForms are texts that layer 8 refuses as fields, by its errors.
func wrongForms() map[api.Errno][]string {
	long := strings.Repeat("a", api.MaxValue)
	return map[api.Errno][]string{
		api.ErrTag:   {"x", "=", "\x01", "\x00", "\xff", "035=8\x01", "0=8\x01", "35\x01", "100000=a\x01", "-1=a\x01"},
		api.ErrValue: {"99=\x01", "99=\x00\x01", "99=\x7f\x01", "99=\xff\x01", "99=" + long + "a\x01"},
		api.ErrOpen:  {"9", "99", "99=", "99=a", "99=" + long},
	}
}

// P14.2: layer 11's errors of Read, beside 0, also ahead of all that would be this layer's.
func TestDecodeRead(t *testing.T) {
	decodeRead(t, orders())
	decodeRead(t, replies())
}

func decodeRead[T comparable](t *testing.T, f face[T]) {
	f.wantRefused(t, "", 0, api.ErrMissing)
	full := ""
	for i := range api.MaxFields {
		full += form(i+35, "1") + "\x01"
	}
	for _, s := range []string{full + "9=a\x01", full + "x", full + full, text("35=8") + full + full} {
		f.wantRefused(t, s, 0, api.ErrBig)
	}
	starts := []string{"", text("35=Z"), text("35=9"), text("35=F"), text("35=9", "34=0"), text("35=F", "11=a b"), text("11=a"), text("35=9", "35=9"), text("35=8", "34=1", "11=c", "17=e", "150=Z")}
	for _, g := range f.goods {
		starts = append(starts, text(g.fields...))
	}
	for e, list := range wrongForms() {
		for _, s := range list {
			for _, start := range starts {
				f.wantRefused(t, start+s, 0, e)
			}
		}
	}
	for _, g := range f.goods {
		s := text(g.fields...)
		for at := range g.fields[1:] {
			f.wantRefused(t, text(put(g.fields[1:], at+1, g.fields[0])...), 0, api.ErrMissing)
		}
		f.wantRefused(t, text(g.fields[1:]...), 0, api.ErrMissing)
		f.wantRefused(t, s[:len(s)-1], 0, api.ErrOpen)
		f.wantRefused(t, "\x01"+s, 0, api.ErrTag)
		f.wantRefused(t, s+"\x01", 0, api.ErrTag)
	}
}

// P14.2: a body that is cut off anywhere is refused: within a field beside 0, between two of them at the first one that lacks.
func TestDecodeCut(t *testing.T) {
	decodeCut(t, orders())
	decodeCut(t, replies())
}

func decodeCut[T comparable](t *testing.T, f face[T]) {
	for _, g := range f.goods {
		whole := text(g.fields...)
		for at := 1; at < len(whole); at++ {
			if whole[at-1] != 1 {
				f.wantRefused(t, whole[:at], 0, api.ErrOpen)
				continue
			}
			lacks := strings.Count(whole[:at], "\x01")
			f.wantRefused(t, whole[:at], tagOf(g.fields[lacks]), api.ErrMissing)
		}
	}
}

// P14.2: each field of each kind met twice, with the same value and with another one, side by side and far apart.
func TestDecodeTwice(t *testing.T) {
	decodeTwice(t, orders())
	decodeTwice(t, replies())
}

func decodeTwice[T comparable](t *testing.T, f face[T]) {
	for _, g := range f.goods {
		for _, field := range g.fields {
			for _, twin := range []string{field, form(tagOf(field), "other"), form(tagOf(field), "1"), form(tagOf(field), "a b")} {
				for at := 1; at <= len(g.fields); at++ {
					f.wantRefused(t, text(put(g.fields, at, twin)...), 0, api.ErrRepeat)
				}
			}
		}
		for at := 1; at <= len(g.fields); at++ {
			fields := append(put(g.fields, at, "99=x"), "99=x")
			f.wantRefused(t, text(fields...), 0, api.ErrRepeat)
			// Ahead of a kind that is none.
			f.wantRefused(t, text(with(fields, 35, "Z")...), 0, api.ErrRepeat)
			f.wantRefused(t, text(with(fields, 150, "Z")...), 0, api.ErrRepeat)
		}
	}
}

// shortTexts are all values of one or two bytes, and some that are like the kinds' words.
func shortTexts() []string {
	list := []string{"DD", "０", "８", "Ｄ", "ＤＦ", "35", "35=8", "DFG", "89", "8,9", "0458FH", "OrderNew", "ReplyTrade", strings.Repeat("8", api.MaxValue), strings.Repeat("F", api.MaxValue)}
	for c := rune(' '); c < 127; c++ {
		list = append(list, string(c))
		for d := rune(' '); d < 127; d++ {
			list = append(list, string(c)+string(d))
		}
	}
	return list
}

// P14.2: of all values of one or two bytes just those of the one table are kinds, none of the other table; ErrType stands ahead of all fields.
func TestDecodeType(t *testing.T) {
	decodeType(t, orders(), []string{"D", "F", "G"})
	decodeType(t, replies(), []string{"8", "9"})
	// A word that is in the other table alone, with all that it has there.
	for _, g := range orders().goods {
		replies().wantRefused(t, text(g.fields...), 35, api.ErrType)
	}
	for _, g := range replies().goods {
		orders().wantRefused(t, text(g.fields...), 35, api.ErrType)
	}
}

func decodeType[T comparable](t *testing.T, f face[T], words []string) {
	rests := [][]string{nil, {"34=0"}, {"99=x"}, {"150=Z"}, {"150=a b", "34=0"}}
	for _, g := range f.goods {
		rests = append(rests, g.fields[1:])
	}
	for _, value := range shortTexts() {
		for _, rest := range rests {
			s := text(append([]string{form(35, value)}, rest...)...)
			if !slices.Contains(words, value) {
				f.wantRefused(t, s, 35, api.ErrType)
			} else if _, at, e := f.decode(s); at == 35 || e == api.ErrType && at != 150 {
				t.Fatalf("Decode(%q): %d, %d", s, at, e)
			}
		}
	}
}

// P14.2: each field of each kind missing; the first one in the table's order is told.
func TestDecodeMissing(t *testing.T) {
	decodeMissing(t, orders())
	decodeMissing(t, replies())
}

func decodeMissing[T comparable](t *testing.T, f face[T]) {
	for _, g := range f.goods {
		for at := 1; at < len(g.fields); at++ {
			tag := tagOf(g.fields[at])
			left := without(g.fields, at)
			f.wantRefused(t, text(left...), tag, api.ErrMissing)
			f.wantRefused(t, text(turned(left)...), tag, api.ErrMissing)
			f.wantRefused(t, text(g.fields[:at]...), tag, api.ErrMissing)
			// Ahead of a field too much.
			f.wantRefused(t, text(append(g.fields[:at:at], "99=x")...), tag, api.ErrMissing)
			f.wantRefused(t, text(put(left, 1, "99=x")...), tag, api.ErrMissing)
		}
	}
}

// bad is a value that a field may not have, and the error.
type bad struct {
	value string
	e     api.Errno
}

// bads are values that the field of a tag may not have.
func bads(tag int) []bad {
	var list []bad
	if isName(tag) {
		for _, value := range []string{" ", "a b", "=", "a=b", "a ", " 0", "F ", strings.Repeat("a", 21), strings.Repeat("😀", 21), strings.Repeat("F", api.MaxValue)} {
			list = append(list, bad{value, api.ErrName})
		}
		if tag == 150 {
			for _, value := range []string{"Z", "1", "f", "h", "00", "FF", "9", "D", strings.Repeat("F", 20)} {
				list = append(list, bad{value, api.ErrType})
			}
		}
		return list
	}
	high := highOf(tag)
	for _, n := range []int{0, high + 1, high + 1<<32, 1 << 62, greatestInt} {
		list = append(list, bad{strconv.Itoa(n), api.ErrArg})
	}
	for _, value := range []string{"-1", "-0", "01", "00", "+1", " 1", "1 ", "1.0", "a", "1a", "0x1", "1,1", "1_0", "１", "=", "9223372036854775808", "18446744073709551616", "18446744073709551617", strings.Repeat("0", api.MaxValue), strings.Repeat("9", api.MaxValue)} {
		list = append(list, bad{value, api.ErrForm})
	}
	return list
}

// P14.2: each field of each kind not of its form and out of its ends.
func TestDecodeBad(t *testing.T) {
	decodeBad(t, orders())
	decodeBad(t, replies())
}

func decodeBad[T comparable](t *testing.T, f face[T]) {
	for _, g := range f.goods {
		for _, field := range g.fields[1:] {
			tag := tagOf(field)
			for _, one := range bads(tag) {
				fields := with(g.fields, tag, one.value)
				f.wantRefused(t, text(fields...), tag, one.e)
				f.wantRefused(t, text(turned(fields)...), tag, one.e)
				// Ahead of a field too much.
				f.wantRefused(t, text(put(fields, 1, "99=x")...), tag, one.e)
			}
		}
	}
}

// P14.2: of any two fields that are bad or missing the one that the table has first is told, in whichever order the body has them.
func TestDecodeFirst(t *testing.T) {
	decodeFirst(t, orders())
	decodeFirst(t, replies())
}

func decodeFirst[T comparable](t *testing.T, f face[T]) {
	for _, g := range f.goods {
		for first := 1; first < len(g.fields); first++ {
			for second := first + 1; second < len(g.fields); second++ {
				tag, behind := tagOf(g.fields[first]), tagOf(g.fields[second])
				for _, one := range bads(tag) {
					fields := with(g.fields, tag, one.value)
					for _, other := range bads(behind) {
						both := with(fields, behind, other.value)
						f.wantRefused(t, text(both...), tag, one.e)
						f.wantRefused(t, text(turned(both)...), tag, one.e)
					}
					// Also ahead of one that lacks.
					f.wantRefused(t, text(without(fields, second)...), tag, one.e)
				}
				for _, other := range bads(behind) {
					left := without(with(g.fields, behind, other.value), first)
					f.wantRefused(t, text(left...), tag, api.ErrMissing)
					f.wantRefused(t, text(turned(left)...), tag, api.ErrMissing)
				}
			}
		}
	}
}

// P14.2: one field too much, in front, in the middle and at the end: of other kinds, and of none; of two the first in the body is told.
func TestDecodeSpare(t *testing.T) {
	decodeSpare(t, orders())
	decodeSpare(t, replies())
}

func decodeSpare[T comparable](t *testing.T, f face[T]) {
	for _, g := range f.goods {
		for _, tag := range []int{11, 17, 19, 31, 32, 34, 38, 44, 54, 55, 150, 1, 8, 9, 10, 14, 33, 36, 37, 39, 41, 58, 99, 103, 149, 151, 371, 5001, 99999} {
			if f.used(g.thing, tag) {
				continue
			}
			for at := 1; at <= len(g.fields); at++ {
				for _, value := range []string{"1", "0", "F", "a b"} {
					fields := put(g.fields, at, form(tag, value))
					f.wantRefused(t, text(fields...), tag, api.ErrSpare)
					f.wantRefused(t, text(append(fields, "77=1")...), tag, api.ErrSpare)
					f.wantRefused(t, text(put(fields, 1, "77=1")...), 77, api.ErrSpare)
				}
			}
		}
	}
}

// P14.2: as many fields too much as a body has room for.
func TestDecodeFull(t *testing.T) {
	decodeFull(t, orders())
	decodeFull(t, replies())
}

func decodeFull[T comparable](t *testing.T, f face[T]) {
	for _, g := range f.goods {
		fields := slices.Clone(g.fields)
		for tag := 1000; len(fields) < api.MaxFields; tag++ {
			fields = append(fields, form(tag, "x"))
		}
		f.wantRefused(t, text(fields...), 1000, api.ErrSpare)
		f.wantRefused(t, text(turned(fields)...), 1000+api.MaxFields-len(g.fields)-1, api.ErrSpare)
		f.wantRefused(t, text(append(fields, "9=x")...), 0, api.ErrBig)
	}
}

// P14.2: the fields behind 35 may stand in any order; 150 may stand behind what it asks for.
func TestDecodeOrder(t *testing.T) {
	decodeOrder(t, orders())
	decodeOrder(t, replies())
}

func decodeOrder[T comparable](t *testing.T, f face[T]) {
	for _, g := range f.goods {
		for _, order := range allOrders(g.fields[1:]) {
			f.wantThing(t, text(append([]string{g.fields[0]}, order...)...), g.thing)
		}
	}
}

// allOrders are all orders of a list.
func allOrders(list []string) [][]string {
	if len(list) == 0 {
		return [][]string{nil}
	}
	all := [][]string{}
	for i, first := range list {
		for _, rest := range allOrders(without(list, i)) {
			all = append(all, append([]string{first}, rest...))
		}
	}
	return all
}

// P14.2: each number and each name at its ends.
func TestDecodeEnds(t *testing.T) {
	decodeEnds(t, orders())
	decodeEnds(t, replies())
}

func decodeEnds[T comparable](t *testing.T, f face[T]) {
	for _, g := range f.goods {
		for _, n := range f.numbers {
			if !f.used(g.thing, n.tag) {
				continue
			}
			high := highOf(n.tag)
			for _, value := range []int{1, 2, high - 1, high} {
				asked := g.thing
				*n.at(&asked) = value
				f.wantThing(t, text(with(g.fields, n.tag, strconv.Itoa(value))...), asked)
			}
			for _, value := range []int{0, high + 1} {
				f.wantRefused(t, text(with(g.fields, n.tag, strconv.Itoa(value))...), n.tag, api.ErrArg)
			}
		}
		for _, n := range f.names {
			if !f.used(g.thing, n.tag) {
				continue
			}
			for _, value := range goodNames() {
				asked := g.thing
				*n.at(&asked) = value
				f.wantThing(t, text(with(g.fields, n.tag, value)...), asked)
			}
		}
	}
}
