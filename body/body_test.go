package body_test

import (
	"math/rand/v2"
	"slices"
	"strconv"
	"strings"
	"testing"
	"unicode"

	"spigot/api"
	"spigot/body"
)

// text is the body of fields that are written as `35=D`.
func text(fields ...string) string {
	s := ""
	for _, f := range fields {
		s += f + "\x01"
	}
	return s
}

// read is the form of such fields.
func read(t *testing.T, fields ...string) *body.Form {
	t.Helper()
	f, e := body.Read(text(fields...))
	if f == nil || e != api.OK {
		t.Fatalf("Read(%.80q): %v, %d", text(fields...), f, e)
	}
	return f
}

func wantNoRead(t *testing.T, s string, asked api.Errno) {
	t.Helper()
	if f, e := body.Read(s); f != nil || e != asked {
		t.Fatalf("Read of %d bytes, %.80q: %v, %d; asked for: %d", len(s), s, f, e, asked)
	}
}

func wantDone(t *testing.T, f *body.Form, number int, asked api.Errno) {
	t.Helper()
	if at, e := f.Done(); at != number || e != asked {
		t.Fatalf("Done: %d, %d; asked for: %d, %d", at, e, number, asked)
	}
}

func wantName(t *testing.T, f *body.Form, number int, name string) {
	t.Helper()
	if got := f.Name(number); got != name {
		t.Fatalf("Name(%d): %q; asked for: %q", number, got, name)
	}
}

func wantInt(t *testing.T, f *body.Form, number, low, high, n int) {
	t.Helper()
	if got := f.Int(number, low, high); got != n {
		t.Fatalf("Int(%d, %d, %d): %d; asked for: %d", number, low, high, got, n)
	}
}

func wantInts(t *testing.T, f *body.Form, number, most, low, high int, list ...int) {
	t.Helper()
	if got := f.Ints(number, most, low, high); !slices.Equal(got, list) {
		t.Fatalf("Ints(%d, %d, %d, %d): %v; asked for: %v", number, most, low, high, got, list)
	}
}

// wantNothing asks for fields that would be right: nothing is told of them.
func wantNothing(t *testing.T, f *body.Form) {
	t.Helper()
	for _, number := range []int{35, 11, 38, 54, 58, 5006, 1, 0, -1, api.MaxTag + 1} {
		wantName(t, f, number, "")
		wantInt(t, f, number, leastInt, greatestInt, 0)
		wantInts(t, f, number, greatestInt, leastInt, greatestInt)
	}
}

// order is a form in which each kind of thing is.
func order(t *testing.T) *body.Form {
	t.Helper()
	return read(t, "35=D", "11=a", "38=7", "5006=1,2,30", "58=a b")
}

// many are so many fields, the first one being 35.
func many(count int) []string {
	list := []string{"35=D"}
	for i := 1; i < count; i++ {
		list = append(list, strconv.Itoa(100+7*i)+"="+strconv.Itoa(i))
	}
	return list
}

// noTags are numbers that no field has as its tag; of some of them the lower bits are one.
func noTags() []int {
	return []int{0, -1, -11, -35, -38, api.MaxTag + 1, api.MaxTag + 36, 1<<16 + 35, 1<<32 + 35, 1<<32 + 11, 1<<32 + 38, leastInt, leastInt + 35, greatestInt}
}

// The chapter's examples.
func TestExamples(t *testing.T) {
	f := read(t, "35=D", "38=07")
	wantInt(t, f, 38, 0, 9, 0)
	wantDone(t, f, 38, api.ErrForm)
	f = read(t, "35=D", "38=7", "54=1")
	wantInt(t, f, 38, 0, 9, 7)
	wantDone(t, f, 54, api.ErrSpare)
}

// P11.2: layer 8's errors, also ahead of those that would be this layer's.
func TestReadFields(t *testing.T) {
	long := strings.Repeat("a", api.MaxValue)
	full := text(many(api.MaxFields)...)
	for e, list := range map[api.Errno][]string{
		api.ErrTag:   {"x", "=", "\x01", "\x00", "\xff", " ", "035=D\x01", "0=D\x01", "=D\x01", "-35=D\x01", "35\x01", "100000=a\x01", "3٣=a\x01"},
		api.ErrValue: {"35=\x01", "11=\x01", "35=\x00\x01", "35=a\tb\x01", "35=\x7f\x01", "35=\xff\x01", "35=\ufffd\x01", "11=" + long + "a\x01"},
		api.ErrOpen:  {"3", "35", "35=", "35=D", "11=" + long},
	} {
		for _, s := range list {
			wantNoRead(t, s, e)
			for _, ahead := range []string{text("35=D"), text("11=a"), text("35=D", "35=D"), text("35=D", "11=a", "11=a"), text("11=a", "11=a"), text("11=a", "35=D")} {
				wantNoRead(t, ahead+s, e)
			}
			wantNoRead(t, full+s, api.ErrBig)
		}
	}
	for _, behind := range []string{text("1=a"), text("35=D"), text("107=1")} {
		wantNoRead(t, full+behind, api.ErrBig)
	}
	wantNoRead(t, strings.Repeat("35=D\x01", api.MaxFields+1), api.ErrBig)
	wantNoRead(t, strings.Repeat("11=a\x01", api.MaxFields+1), api.ErrBig)
	wantNoRead(t, strings.Repeat("35=D\x01", 1<<16), api.ErrBig)
}

// P11.2: the first field is 35, or there is no form.
func TestReadMissing(t *testing.T) {
	wantNoRead(t, "", api.ErrMissing)
	for _, fields := range [][]string{{"11=a"}, {"11=a", "35=D"}, {"11=a", "38=7", "35=D"}, {"3=D"}, {"5=D"}, {"350=D"}, {"34=D"}, {"36=D"}, {"53=D"}, {"135=D"}, {"99999=35"}, {"1=35=D"}} {
		wantNoRead(t, text(fields...), api.ErrMissing)
		// Ahead of a tag that is met twice.
		wantNoRead(t, text(append(fields, fields...)...), api.ErrMissing)
		wantNoRead(t, text(append(fields, "35=D", "35=D")...), api.ErrMissing)
	}
	for number := 1; number <= api.MaxTag; number++ {
		s := strconv.Itoa(number) + "=D\x01"
		if number != 35 {
			wantNoRead(t, s, api.ErrMissing)
		} else if f, e := body.Read(s); f.Kind() != "D" || e != api.OK {
			t.Fatalf("Read(%q): %d", s, e)
		}
	}
}

// P11.2: two fields of one tag, side by side and far apart, of one value and of two.
func TestReadRepeat(t *testing.T) {
	for _, fields := range [][]string{{"35=D", "35=D"}, {"35=D", "35=F"}, {"35=D", "11=a", "35=D"}, {"35=D", "11=a", "11=a"}, {"35=D", "11=a", "11=b"}, {"35=D", "11=a", "38=1", "11=a"}, {"35=D", "99999=a", "1=b", "99999=c"}} {
		wantNoRead(t, text(fields...), api.ErrRepeat)
	}
	const count = 12
	for first := range count {
		for second := first + 1; second < count; second++ {
			list := many(count)
			number, _, _ := strings.Cut(list[first], "=")
			list[second] = number + "=other"
			wantNoRead(t, text(list...), api.ErrRepeat)
		}
	}
	list := many(api.MaxFields)
	list[api.MaxFields-1] = "35=D"
	wantNoRead(t, text(list...), api.ErrRepeat)
	// Tags of which one begins as the other does are two.
	read(t, "35=D", "3=a", "5=a", "350=a", "1=a", "11=a", "111=a", "1111=a", "11111=a")
}

// P11.2: as many fields as may be, of as many bytes as they may have: a form has no other bound.
func TestReadMany(t *testing.T) {
	for _, count := range []int{1, 2, api.MaxFields - 1, api.MaxFields} {
		list := many(count)
		f := read(t, list...)
		for i := 1; i < count; i++ {
			wantDone(t, f, 100+7*i, api.ErrSpare)
			wantInt(t, f, 100+7*i, i, i, i)
		}
		wantDone(t, f, 0, api.OK)
	}
	wantNoRead(t, text(many(api.MaxFields+1)...), api.ErrBig)
	long := []string{"35=" + strings.Repeat("é", api.MaxValue/2)}
	for i := 1; i < api.MaxFields; i++ {
		long = append(long, strconv.Itoa(i)+"="+strings.Repeat("a", api.MaxValue))
		if i == 34 {
			long[i] = "99999=" + strings.Repeat("b", api.MaxValue)
		}
		if i == 35 {
			long[i] = "99998=b"
		}
	}
	f := read(t, long...)
	if f.Kind() != strings.Repeat("é", api.MaxValue/2) || !f.Has(99999) || !f.Has(63) || f.Has(34) {
		t.Fatal("long fields aren't told as they are")
	}
}

// P11.2: the kind is whatever value stands there; the tag 35 counts as asked for whether Kind is called or not.
func TestKind(t *testing.T) {
	for _, value := range []string{"D", "F", "0", "UP", "a=b", "=", " ", "a b", "35=D", "é€😀", "35", strings.Repeat("a", 21), strings.Repeat("a", api.MaxValue)} {
		f := read(t, "35="+value)
		wantDone(t, f, 0, api.OK)
		for range 3 {
			if f.Kind() != value {
				t.Fatalf("Kind: %q; asked for: %q", f.Kind(), value)
			}
		}
		wantDone(t, f, 0, api.OK)
	}
	f := read(t, "35=D", "11=a")
	wantDone(t, f, 11, api.ErrSpare)
	if f.Kind() != "D" {
		t.Fatal(f.Kind())
	}
	wantDone(t, f, 11, api.ErrSpare)
}

// P11.2: a field's tag, whatever its value is; that doesn't count as asked for.
func TestHas(t *testing.T) {
	list := []string{"35=D", "1=a", "11=07", "38=,", "5006= ", "99999=x"}
	f := read(t, list...)
	there := []int{35, 1, 11, 38, 5006, 99999}
	for number := -100; number <= api.MaxTag+100; number++ {
		if f.Has(number) != slices.Contains(there, number) {
			t.Fatalf("Has(%d): %v", number, f.Has(number))
		}
	}
	for _, number := range noTags() {
		if f.Has(number) {
			t.Fatalf("Has(%d)", number)
		}
	}
	wantDone(t, f, 1, api.ErrSpare)
	wantName(t, f, 1, "a")
	wantDone(t, f, 11, api.ErrSpare)
}

// P11.3: names as layer 4 has them, and what is none.
func TestName(t *testing.T) {
	full := strings.Repeat("a", api.MaxName)
	for _, name := range []string{"a", "!", "~", "D", "07", "1,2", "é", "😀", "a,b", "A.B-c_d", "\u0080", "\u00a0", full, strings.Repeat("😀", api.MaxName)} {
		f := read(t, "35=D", "11="+name)
		wantName(t, f, 11, name)
		wantDone(t, f, 0, api.OK)
	}
	for _, none := range []string{" ", "a b", " a", "a ", "=", "a=b", "=a", "a=", full + "a", strings.Repeat("😀", api.MaxName+1), strings.Repeat("a", api.MaxValue)} {
		f := read(t, "35=D", "11="+none)
		wantName(t, f, 11, "")
		wantDone(t, f, 11, api.ErrName)
		wantNothing(t, f)
	}
	for c := ' '; c < 0x800; c++ {
		if c == 127 {
			// No body has it.
			continue
		}
		f := read(t, "35=D", "11=a"+string(c))
		if c == ' ' || c == '=' {
			wantName(t, f, 11, "")
			wantDone(t, f, 11, api.ErrName)
		} else {
			wantName(t, f, 11, "a"+string(c))
			wantDone(t, f, 0, api.OK)
		}
	}
}

// P11.3: a number at either end, one past it, and ends that nothing is between.
func TestInt(t *testing.T) {
	for _, n := range someNumbers() {
		value := "38=" + strconv.Itoa(n)
		ends := [][2]int{{n, n}, {0, n}, {n, greatestInt}, {leastInt, greatestInt}, {-1, n}, {leastInt, n}}
		wrong := [][2]int{{n, n - 1}, {0, -1}, {greatestInt, leastInt}, {leastInt, -1}, {leastInt, leastInt}, {-5, -1}}
		if n > 0 {
			ends = append(ends, [2]int{n - 1, n})
			wrong = append(wrong, [2]int{0, n - 1}, [2]int{n - 1, n - 1}, [2]int{leastInt, n - 1}, [2]int{-n, -n})
		}
		if n < greatestInt {
			ends = append(ends, [2]int{n, n + 1})
			wrong = append(wrong, [2]int{n + 1, greatestInt}, [2]int{n + 1, n + 1}, [2]int{n + 1, n - 1})
		}
		for _, end := range ends {
			f := read(t, "35=D", value)
			wantInt(t, f, 38, end[0], end[1], n)
			wantDone(t, f, 0, api.OK)
		}
		for _, end := range wrong {
			if end[0] <= n && n <= end[1] {
				continue
			}
			f := read(t, "35=D", value)
			wantInt(t, f, 38, end[0], end[1], 0)
			wantDone(t, f, 38, api.ErrArg)
			wantNothing(t, f)
		}
	}
}

// bare are the texts that are no numbers, so far as they are values.
func bare() []string {
	return slices.DeleteFunc(noNumbers(), func(s string) bool {
		return s == "" || len(s) > api.MaxValue || strings.ContainsFunc(s, func(c rune) bool { return c == unicode.ReplacementChar || c < ' ' || c == 127 })
	})
}

// P11.3: what is no number is ErrForm, whatever the ends are.
func TestIntForm(t *testing.T) {
	for _, value := range append(bare(), ",", "1,2", "1,", ",1") {
		for _, end := range [][2]int{{0, 9}, {leastInt, greatestInt}, {9, 0}, {-1, -1}} {
			f := read(t, "35=D", "38="+value)
			wantInt(t, f, 38, end[0], end[1], 0)
			wantDone(t, f, 38, api.ErrForm)
			wantNothing(t, f)
		}
	}
}

// P11.3: one, two and many numbers, as many as may be; and one that is past an end, at each place.
func TestInts(t *testing.T) {
	for many := 1; many <= 9; many++ {
		var list []int
		for i := range many {
			list = append(list, 10+i*i)
		}
		value := "5006=" + strings.Join(texts(list...), ",")
		last := list[many-1]
		for _, most := range []int{many, many + 1, api.MaxBuckets, greatestInt} {
			f := read(t, "35=D", value)
			wantInts(t, f, 5006, most, 10, last, list...)
			wantInts(t, f, 5006, most, leastInt, greatestInt, list...)
			wantDone(t, f, 0, api.OK)
		}
		// Too many is told ahead of what is past an end.
		for _, most := range []int{many - 1, 0, -1, leastInt, leastInt + many} {
			for _, end := range [][2]int{{10, last}, {0, 0}, {1, 0}} {
				f := read(t, "35=D", value)
				wantInts(t, f, 5006, most, end[0], end[1])
				wantDone(t, f, 5006, api.ErrBig)
				wantNothing(t, f)
			}
		}
		for _, end := range [][2]int{{11, last}, {10, last - 1}, {0, 9}, {last + 1, greatestInt}, {last, 10 - 1}, {greatestInt, leastInt}, {leastInt, -1}} {
			f := read(t, "35=D", value)
			wantInts(t, f, 5006, many, end[0], end[1])
			wantDone(t, f, 5006, api.ErrArg)
			wantNothing(t, f)
		}
		for place := range many {
			for _, n := range []int{4, 6, 0, greatestInt} {
				fives := slices.Repeat([]int{5}, many)
				fives[place] = n
				f := read(t, "35=D", "5006="+strings.Join(texts(fives...), ","))
				wantInts(t, f, 5006, many, 5, 5)
				wantDone(t, f, 5006, api.ErrArg)
			}
		}
	}
	// As many as a value has room for.
	ones := slices.Repeat([]int{1}, 256)
	f := read(t, "35=D", "5006="+strings.Join(texts(ones...), ","))
	wantInts(t, f, 5006, 256, 1, 1, ones...)
	wantDone(t, f, 0, api.OK)
	wantInts(t, f, 5006, 255, 1, 1)
	wantDone(t, f, 5006, api.ErrBig)
}

// P11.3: what isn't numbers is ErrForm, whatever the most and the ends are.
func TestIntsForm(t *testing.T) {
	for _, bad := range append(bare(), "") {
		for _, value := range []string{bad, bad + ",1", "1," + bad, "1," + bad + ",2"} {
			if value == "" || len(value) > api.MaxValue {
				continue
			}
			for _, most := range []int{64, 1, 0, -1} {
				for _, end := range [][2]int{{0, 9}, {leastInt, greatestInt}, {9, 0}} {
					f := read(t, "35=D", "5006="+value)
					wantInts(t, f, 5006, most, end[0], end[1])
					wantDone(t, f, 5006, api.ErrForm)
				}
			}
		}
	}
}

// P11.3: a field that isn't there, whatever tag is asked for and whatever goes with it.
func TestMissing(t *testing.T) {
	for _, number := range append(noTags(), 1, 3, 5, 34, 36, 110, 350, api.MaxTag) {
		for _, ask := range []func(f *body.Form){
			func(f *body.Form) { wantName(t, f, number, "") },
			func(f *body.Form) { wantInt(t, f, number, 0, 9, 0) },
			func(f *body.Form) { wantInt(t, f, number, leastInt, greatestInt, 0) },
			func(f *body.Form) { wantInt(t, f, number, 9, 0, 0) },
			func(f *body.Form) { wantInts(t, f, number, 9, 0, 9) },
			func(f *body.Form) { wantInts(t, f, number, 0, 9, 0) },
			func(f *body.Form) { wantInts(t, f, number, -1, 0, 9) },
		} {
			f := order(t)
			ask(f)
			wantDone(t, f, number, api.ErrMissing)
			wantNothing(t, f)
			wantDone(t, f, number, api.ErrMissing)
			if f.Has(number) {
				t.Fatalf("Has(%d)", number)
			}
		}
	}
}

// P11.3: a field may be asked for again, and as something else; also 35.
func TestAskedTwice(t *testing.T) {
	f := read(t, "35=8", "11=7", "5006=1,2")
	for range 3 {
		wantName(t, f, 11, "7")
		wantInt(t, f, 11, 0, 9, 7)
		wantInts(t, f, 11, 1, 7, 7, 7)
		wantName(t, f, 5006, "1,2")
		wantInts(t, f, 5006, 2, 1, 2, 1, 2)
		wantName(t, f, 35, "8")
		wantInt(t, f, 35, 8, 8, 8)
		wantInts(t, f, 35, 1, 8, 8, 8)
		wantDone(t, f, 0, api.OK)
	}
	// What was right once may be wrong as something else.
	wantInt(t, f, 5006, 0, 9, 0)
	wantDone(t, f, 5006, api.ErrForm)
	f = read(t, "35=a b")
	wantName(t, f, 35, "")
	wantDone(t, f, 35, api.ErrName)
}

// wrongAsks are asks of order's form that meet an error, by the tag and the error.
func wrongAsks() map[[2]int]func(f *body.Form) {
	return map[[2]int]func(f *body.Form){
		{58, int(api.ErrName)}:    func(f *body.Form) { f.Name(58) },
		{12, int(api.ErrMissing)}: func(f *body.Form) { f.Name(12) },
		{0, int(api.ErrMissing)}:  func(f *body.Form) { f.Int(0, 0, 9) },
		{-4, int(api.ErrMissing)}: func(f *body.Form) { f.Ints(-4, 9, 0, 9) },
		{11, int(api.ErrForm)}:    func(f *body.Form) { f.Int(11, 0, 9) },
		{35, int(api.ErrForm)}:    func(f *body.Form) { f.Ints(35, 9, 0, 9) },
		{38, int(api.ErrArg)}:     func(f *body.Form) { f.Int(38, 8, 9) },
		{5006, int(api.ErrBig)}:   func(f *body.Form) { f.Ints(5006, 2, 0, 99) },
		{5006, int(api.ErrArg)}:   func(f *body.Form) { f.Ints(5006, 3, 0, 29) },
		{5006, int(api.ErrForm)}:  func(f *body.Form) { f.Int(5006, 0, 99) },
	}
}

// P11.3: the first error stays, whichever is met behind it; Kind and Has go on as they were.
func TestFirstErrorStays(t *testing.T) {
	for what, first := range wrongAsks() {
		for _, second := range wrongAsks() {
			for _, asked := range []bool{false, true} {
				f := order(t)
				if asked {
					wantName(t, f, 11, "a")
					wantInt(t, f, 38, 0, 9, 7)
					wantInts(t, f, 5006, 3, 1, 30, 1, 2, 30)
				}
				first(f)
				wantDone(t, f, what[0], api.Errno(what[1]))
				second(f)
				wantDone(t, f, what[0], api.Errno(what[1]))
				// Fields that were right till then.
				wantName(t, f, 11, "")
				wantInt(t, f, 38, 0, 9, 0)
				wantInts(t, f, 5006, 3, 1, 30)
				wantNothing(t, f)
				wantDone(t, f, what[0], api.Errno(what[1]))
				if f.Kind() != "D" || !f.Has(11) || !f.Has(58) || !f.Has(35) || f.Has(12) || f.Has(0) {
					t.Fatal("Kind and Has don't go by the first error")
				}
			}
		}
	}
}

// P11.4: all was asked for, nothing was, and all but one, at each place, in any order.
func TestDone(t *testing.T) {
	const count = 7
	list := many(count)
	for skipped := 1; skipped <= count; skipped++ {
		for _, back := range []bool{false, true} {
			f := read(t, list...)
			for i := 1; i < count; i++ {
				place := i
				if back {
					place = count - i
				}
				if place != skipped {
					wantInt(t, f, 100+7*place, 0, count, place)
				}
			}
			for range 3 {
				if skipped == count {
					wantDone(t, f, 0, api.OK)
				} else {
					wantDone(t, f, 100+7*skipped, api.ErrSpare)
				}
			}
		}
	}
	wantDone(t, read(t, list...), 107, api.ErrSpare)
	wantDone(t, read(t, "35=D"), 0, api.OK)
	// The first one is that of the body, not the one of the least tag.
	f := read(t, "35=D", "500=a", "20=b", "99999=c", "1=d", "300=e")
	for _, number := range []int{500, 20, 99999, 1, 300} {
		wantDone(t, f, number, api.ErrSpare)
		f.Name(number)
	}
	wantDone(t, f, 0, api.OK)
}

// P11.4: Done tells and changes nothing: that something is spare is no first error, and one may ask on.
func TestDoneChangesNothing(t *testing.T) {
	f := order(t)
	for range 2 {
		wantDone(t, f, 11, api.ErrSpare)
	}
	wantName(t, f, 11, "a")
	wantDone(t, f, 38, api.ErrSpare)
	wantInts(t, f, 5006, 9, 0, 99, 1, 2, 30)
	wantDone(t, f, 38, api.ErrSpare)
	wantInt(t, f, 38, 0, 9, 7)
	wantDone(t, f, 58, api.ErrSpare)
	wantName(t, f, 58, "")
	wantDone(t, f, 58, api.ErrName)
	f = read(t, "35=D", "38=7")
	wantInt(t, f, 38, 0, 9, 7)
	wantDone(t, f, 0, api.OK)
	wantInt(t, f, 38, 0, 9, 7)
	wantDone(t, f, 0, api.OK)
	wantInt(t, f, 38, 0, 6, 0)
	wantDone(t, f, 38, api.ErrArg)
	f = read(t, "35=D", "38=7", "54=1")
	wantDone(t, f, 38, api.ErrSpare)
	f.Int(40, 0, 9)
	wantDone(t, f, 40, api.ErrMissing)
}

// A form that Read did not make tells nothing.
func TestNoForm(t *testing.T) {
	refused, _ := body.Read("35=D")
	for _, f := range []*body.Form{nil, {}, new(body.Form), refused} {
		for range 2 {
			wantDone(t, f, 0, api.ErrNil)
			if f.Kind() != "" {
				t.Fatalf("Kind: %q", f.Kind())
			}
			for _, number := range append(noTags(), 35, 11, 1, api.MaxTag) {
				if f.Has(number) {
					t.Fatalf("Has(%d)", number)
				}
			}
			wantNothing(t, f)
			wantDone(t, f, 0, api.ErrNil)
		}
	}
}

// What is handed out is nobody else's, and two forms of one body have nothing in common.
func TestNothingIsShared(t *testing.T) {
	f, other := order(t), order(t)
	first := f.Ints(5006, 9, 0, 99)
	second := f.Ints(5006, 9, 0, 99)
	spoil(first)
	if !slices.Equal(second, []int{1, 2, 30}) {
		t.Fatalf("two lists share their memory: %v", second)
	}
	wantInts(t, f, 5006, 9, 0, 99, 1, 2, 30)
	wantName(t, f, 11, "a")
	wantDone(t, f, 38, api.ErrSpare)
	wantDone(t, other, 11, api.ErrSpare)
	f.Int(38, 0, 6)
	wantDone(t, f, 38, api.ErrArg)
	wantName(t, other, 11, "a")
	wantInt(t, other, 38, 0, 9, 7)
	wantInts(t, other, 5006, 9, 0, 99, 1, 2, 30)
	wantDone(t, other, 58, api.ErrSpare)
}

// plain goes by the chapter's words: a list of fields, what was asked for, and the first error.
type plain struct {
	fields []api.Field
	asked  []int
	at     int
	first  api.Errno
}

// value asks for a field, as far as all kinds of asks do the same.
func (p *plain) value(number int) (string, bool) {
	if p.first != api.OK {
		return "", false
	}
	for _, f := range p.fields {
		if f.Tag == number {
			p.asked = append(p.asked, number)
			return f.Value, true
		}
	}
	p.at, p.first = number, api.ErrMissing
	return "", false
}

func (p *plain) fail(number int, e api.Errno) {
	p.at, p.first = number, e
}

func (p *plain) name(number int) string {
	value, ok := p.value(number)
	if !ok {
		return ""
	}
	if value == "" || len([]rune(value)) > 20 || strings.ContainsAny(value, " =") {
		p.fail(number, api.ErrName)
		return ""
	}
	return value
}

func (p *plain) ints(number, most, low, high int, one bool) []int {
	value, ok := p.value(number)
	if !ok {
		return nil
	}
	list, right := numbersOf(value)
	switch {
	case !right || one && strings.Contains(value, ","):
		p.fail(number, api.ErrForm)
	case len(list) > most:
		p.fail(number, api.ErrBig)
	case slices.Min(list) < low || slices.Max(list) > high:
		p.fail(number, api.ErrArg)
	default:
		return list
	}
	return nil
}

func (p *plain) done() (int, api.Errno) {
	if p.first != api.OK {
		return p.at, p.first
	}
	for _, f := range p.fields {
		if f.Tag != 35 && !slices.Contains(p.asked, f.Tag) {
			return f.Tag, api.ErrSpare
		}
	}
	return 0, api.OK
}

// readPlain is the plain form of fields that are right, and what Read must tell of them.
func readPlain(fields []api.Field) (*plain, api.Errno) {
	if len(fields) == 0 || fields[0].Tag != 35 {
		return nil, api.ErrMissing
	}
	for i, f := range fields {
		for _, other := range fields[:i] {
			if other.Tag == f.Tag {
				return nil, api.ErrRepeat
			}
		}
	}
	return &plain{fields: fields}, api.OK
}

// P11.2 to P11.4: mixed bodies and asks, held against the chapter's words.
func TestMixed(t *testing.T) {
	chance := rand.New(rand.NewPCG(11, 2))
	values := []string{"0", "1", "7", "07", "12", "1,2", "3,0,9", "1,", "a", "a b", "a=b", "9223372036854775807", "9223372036854775808", strings.Repeat("x", 20), strings.Repeat("x", 21), "é"}
	for range 30000 {
		fields := []api.Field{{Tag: 35 + chance.IntN(20)/19, Value: "D"}}
		for range chance.IntN(6) {
			fields = append(fields, api.Field{Tag: 30 + chance.IntN(12), Value: values[chance.IntN(len(values))]})
		}
		s := ""
		for _, f := range fields {
			s += strconv.Itoa(f.Tag) + "=" + f.Value + "\x01"
		}
		p, no := readPlain(fields)
		f, e := body.Read(s)
		if e != no || (f == nil) != (p == nil) {
			t.Fatalf("Read(%q): %v, %d; asked for: %d", s, f, e, no)
		}
		if p != nil {
			mixAsks(t, chance, f, p)
		}
	}
}

// mixAsks asks a form and its plain one for the same things, mostly for such as are there and as they might be right.
func mixAsks(t *testing.T, chance *rand.Rand, f *body.Form, p *plain) {
	t.Helper()
	for range chance.IntN(12) {
		number := p.fields[chance.IntN(len(p.fields))].Tag
		if chance.IntN(20) == 0 {
			number = 28 + chance.IntN(16)
		}
		most, low, high := chance.IntN(5), chance.IntN(3)-1, 12
		if chance.IntN(4) == 0 {
			low, high = chance.IntN(14), chance.IntN(14)
		}
		switch chance.IntN(6) {
		case 0:
			wantName(t, f, number, p.name(number))
		case 1:
			n := 0
			if list := p.ints(number, 1, low, high, true); len(list) == 1 {
				n = list[0]
			}
			wantInt(t, f, number, low, high, n)
		case 2:
			wantInts(t, f, number, most, low, high, p.ints(number, most, low, high, false)...)
		case 3:
			there := slices.ContainsFunc(p.fields, func(one api.Field) bool { return one.Tag == number })
			if f.Has(number) != there {
				t.Fatalf("Has(%d): %v", number, f.Has(number))
			}
		case 4:
			if f.Kind() != p.fields[0].Value {
				t.Fatalf("Kind: %q", f.Kind())
			}
		}
		at, e := p.done()
		wantDone(t, f, at, e)
	}
}
