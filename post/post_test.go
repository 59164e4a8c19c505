package post_test

import (
	"math"
	"slices"
	"strconv"
	"strings"
	"testing"

	"spigot/api"
	"spigot/post"
	"spigot/roster"
)

const (
	leastInt    = math.MinInt
	greatestInt = math.MaxInt
)

// good is a thing that is right, and its fields as they stand in its body.
type good[T any] struct {
	thing  T
	fields []string
}

// place is where a thing holds a field's value.
type place[T, V any] struct {
	tag int
	at  func(x *T) *V
}

// face is what the package has for one sort of things, and what the chapter's table says of it.
type face[T comparable] struct {
	right   func(T) bool
	encode  func(T) (string, api.Errno)
	decode  func(string) (T, int, api.Errno)
	goods   []good[T]
	kind    func(x *T) *int
	kinds   int              // from 1 on
	words   []string         // of 35, kind by kind
	plan    func(int) []int  // a kind's tags behind 35, in the body's order, with 150
	report  func(int) string // what 150 says of a kind
	names   []place[T, string]
	numbers []place[T, int]
}

// orders are what goes to a venue.
func orders() face[api.Order] {
	return face[api.Order]{
		right: post.RightOrder, encode: post.EncodeOrder, decode: post.DecodeOrder,
		goods: []good[api.Order]{
			{
				api.Order{Kind: api.OrderNew, Seq: 3, ID: "c1", Symbol: "X", Side: api.Sell, Qty: 50, Price: 995},
				[]string{"35=D", "34=3", "11=c1", "55=X", "54=2", "38=50", "44=995"},
			},
			{api.Order{Kind: api.OrderCancel, Seq: 7, ID: "c2"}, []string{"35=F", "34=7", "11=c2"}},
			{api.Order{Kind: api.OrderReplace, Seq: 8, ID: "c3", Qty: 40, Price: 990}, []string{"35=G", "34=8", "11=c3", "38=40", "44=990"}},
		},
		kind:   func(x *api.Order) *int { return &x.Kind },
		kinds:  3,
		words:  []string{"", "D", "F", "G"},
		plan:   func(kind int) []int { return [][]int{{}, {34, 11, 55, 54, 38, 44}, {34, 11}, {34, 11, 38, 44}}[kind] },
		report: func(int) string { return "" },
		names: []place[api.Order, string]{
			{11, func(x *api.Order) *string { return &x.ID }},
			{55, func(x *api.Order) *string { return &x.Symbol }},
		},
		numbers: []place[api.Order, int]{
			{34, func(x *api.Order) *int { return &x.Seq }},
			{54, func(x *api.Order) *int { return &x.Side }},
			{38, func(x *api.Order) *int { return &x.Qty }},
			{44, func(x *api.Order) *int { return &x.Price }},
		},
	}
}

// replies are what comes from a venue.
func replies() face[api.Reply] {
	return face[api.Reply]{
		right: post.RightReply, encode: post.EncodeReply, decode: post.DecodeReply,
		goods: []good[api.Reply]{
			{api.Reply{Kind: api.ReplyNew, Seq: 1, ID: "c1", Exec: "e1"}, []string{"35=8", "34=1", "11=c1", "17=e1", "150=0"}},
			{api.Reply{Kind: api.ReplyCanceled, Seq: 2, ID: "c2", Exec: "e2"}, []string{"35=8", "34=2", "11=c2", "17=e2", "150=4"}},
			{api.Reply{Kind: api.ReplyReplaced, Seq: 3, ID: "c3", Exec: "e3"}, []string{"35=8", "34=3", "11=c3", "17=e3", "150=5"}},
			{api.Reply{Kind: api.ReplyRejected, Seq: 4, ID: "c4", Exec: "e4"}, []string{"35=8", "34=4", "11=c4", "17=e4", "150=8"}},
			{
				api.Reply{Kind: api.ReplyTrade, Seq: 5, ID: "c5", Exec: "e5", Qty: 50, Price: 995},
				[]string{"35=8", "34=5", "11=c5", "17=e5", "150=F", "32=50", "31=995"},
			},
			{api.Reply{Kind: api.ReplyBust, Seq: 6, ID: "c6", Exec: "e6", Ref: "e5"}, []string{"35=8", "34=6", "11=c6", "17=e6", "150=H", "19=e5"}},
			{api.Reply{Kind: api.ReplyRefused, Seq: 7, ID: "c7"}, []string{"35=9", "34=7", "11=c7"}},
		},
		kind:  func(x *api.Reply) *int { return &x.Kind },
		kinds: 7,
		words: []string{"", "8", "8", "8", "8", "8", "8", "9"},
		plan: func(kind int) []int {
			return [][]int{{}, {34, 11, 17, 150}, {34, 11, 17, 150}, {34, 11, 17, 150}, {34, 11, 17, 150}, {34, 11, 17, 150, 32, 31}, {34, 11, 17, 150, 19}, {34, 11}}[kind]
		},
		report: func(kind int) string { return []string{"", "0", "4", "5", "8", "F", "H", ""}[kind] },
		names: []place[api.Reply, string]{
			{11, func(x *api.Reply) *string { return &x.ID }},
			{17, func(x *api.Reply) *string { return &x.Exec }},
			{19, func(x *api.Reply) *string { return &x.Ref }},
		},
		numbers: []place[api.Reply, int]{
			{34, func(x *api.Reply) *int { return &x.Seq }},
			{32, func(x *api.Reply) *int { return &x.Qty }},
			{31, func(x *api.Reply) *int { return &x.Price }},
		},
	}
}

// used says whether a thing's kind has the field of a tag.
func (f face[T]) used(x T, tag int) bool {
	return slices.Contains(f.plan(*f.kind(&x)), tag)
}

// highOf is the greatest number that the field of a tag may have; the least is 1, whichever it is.
func highOf(tag int) int {
	if tag == 54 {
		return 2
	}
	return 1 << 40
}

// form is a field that is written as `35=8`.
func form(tag int, value string) string {
	return strconv.Itoa(tag) + "=" + value
}

// tagOf is the tag of a field that is written so, valueOf its value.
func tagOf(field string) int {
	number, _, _ := strings.Cut(field, "=")
	tag, _ := strconv.Atoi(number)
	return tag
}

func valueOf(field string) string {
	_, value, _ := strings.Cut(field, "=")
	return value
}

// text is the body of such fields.
func text(fields ...string) string {
	s := ""
	for _, f := range fields {
		s += f + "\x01"
	}
	return s
}

// with is fields of which one has another value.
func with(fields []string, tag int, value string) []string {
	list := slices.Clone(fields)
	for i, field := range list {
		if tagOf(field) == tag {
			list[i] = form(tag, value)
		}
	}
	return list
}

// wantRight asks that a thing is right, is encoded, and is decoded as it was.
func (f face[T]) wantRight(t *testing.T, x T) {
	t.Helper()
	if !f.right(x) {
		t.Fatalf("not right: %+v", x)
	}
	s, e := f.encode(x)
	if s == "" || e != api.OK {
		t.Fatalf("Encode(%+v): %q, %d", x, s, e)
	}
	f.wantThing(t, s, x)
}

func (f face[T]) wantWrong(t *testing.T, x T) {
	t.Helper()
	if f.right(x) {
		t.Fatalf("right: %+v", x)
	}
	if s, e := f.encode(x); s != "" || e != api.ErrArg {
		t.Fatalf("Encode(%+v): %q, %d", x, s, e)
	}
}

// want asks for one or the other.
func (f face[T]) want(t *testing.T, x T, right bool) {
	t.Helper()
	if right {
		f.wantRight(t, x)
	} else {
		f.wantWrong(t, x)
	}
}

// wantBody asks that a thing is encoded as just these fields.
func (f face[T]) wantBody(t *testing.T, x T, fields []string) {
	t.Helper()
	if s, e := f.encode(x); s != text(fields...) || e != api.OK {
		t.Fatalf("Encode(%+v): %q, %d; asked for: %q", x, s, e, text(fields...))
	}
}

// wantThing asks that a body is decoded as a thing that is right, and that what this one is encoded as is decoded as the same again.
func (f face[T]) wantThing(t *testing.T, s string, asked T) {
	t.Helper()
	x, at, e := f.decode(s)
	if x != asked || at != 0 || e != api.OK {
		t.Fatalf("Decode(%q): %+v, %d, %d; asked for: %+v", s, x, at, e, asked)
	}
	if !f.right(x) {
		t.Fatalf("Decode(%q): %+v, which isn't right", s, x)
	}
	again, e := f.encode(x)
	if e != api.OK {
		t.Fatalf("Encode(%+v): %q, %d", x, again, e)
	}
	if y, at, e := f.decode(again); y != x || at != 0 || e != api.OK {
		t.Fatalf("Decode(%q): %+v, %d, %d; asked for: %+v", again, y, at, e, x)
	}
}

func (f face[T]) wantRefused(t *testing.T, s string, tag int, asked api.Errno) {
	t.Helper()
	var nothing T
	if x, at, e := f.decode(s); x != nothing || at != tag || e != asked {
		t.Fatalf("Decode(%.200q): %+v, %d, %d; asked for: %d, %d", s, x, at, e, tag, asked)
	}
}

// The chapter's example.
func TestExamples(t *testing.T) {
	cancel := api.Order{Kind: api.OrderCancel, Seq: 7, ID: "c1"}
	orders().wantBody(t, cancel, []string{"35=F", "34=7", "11=c1"})
	orders().wantThing(t, "35=F\x0134=7\x0111=c1\x01", cancel)
}

// The kinds' numbers are those of the tables.
func TestKindsNumbers(t *testing.T) {
	kindsNumbers(t, orders())
	kindsNumbers(t, replies())
}

func kindsNumbers[T comparable](t *testing.T, f face[T]) {
	for i, g := range f.goods {
		if kind := *f.kind(&g.thing); kind != i+1 || f.words[kind] != valueOf(g.fields[0]) {
			t.Fatalf("%+v stands at the place %d", g, i)
		}
	}
	if len(f.goods) != f.kinds {
		t.Fatalf("%d kinds; asked for: %d", len(f.goods), f.kinds)
	}
}

// P14.1, P14.3: each kind is encoded to the byte, decoded as it was, and encoded again as the same.
func TestBothWays(t *testing.T) {
	bothWays(t, orders())
	bothWays(t, replies())
}

func bothWays[T comparable](t *testing.T, f face[T]) {
	for _, g := range f.goods {
		f.wantRight(t, g.thing)
		f.wantBody(t, g.thing, g.fields)
		x, _, _ := f.decode(text(g.fields...))
		f.wantBody(t, x, g.fields)
	}
}

// P14.1, P14.3: the least and the greatest of everything at once: the greatest has room in a body.
func TestLeastAndGreatest(t *testing.T) {
	leastAndGreatest(t, orders())
	leastAndGreatest(t, replies())
}

func leastAndGreatest[T comparable](t *testing.T, f face[T]) {
	for _, g := range f.goods {
		least, greatest := g, g
		for _, n := range f.names {
			if f.used(g.thing, n.tag) {
				*n.at(&least.thing), least.fields = "!", with(least.fields, n.tag, "!")
				long := strings.Repeat("😀", api.MaxName)
				*n.at(&greatest.thing), greatest.fields = long, with(greatest.fields, n.tag, long)
			}
		}
		for _, n := range f.numbers {
			if f.used(g.thing, n.tag) {
				*n.at(&least.thing), least.fields = 1, with(least.fields, n.tag, "1")
				high := highOf(n.tag)
				*n.at(&greatest.thing), greatest.fields = high, with(greatest.fields, n.tag, strconv.Itoa(high))
			}
		}
		for _, one := range []good[T]{least, greatest} {
			f.wantRight(t, one.thing)
			f.wantBody(t, one.thing, one.fields)
			f.wantThing(t, text(one.fields...), one.thing)
			if len(text(one.fields...)) > api.MaxBody {
				t.Fatalf("a body of %d bytes", len(text(one.fields...)))
			}
		}
	}
}

// A name that is encoded is one by layer 4 as it stands in the body, whatever its runes are.
func TestNamesBothWays(t *testing.T) {
	namesBothWays(t, orders())
	namesBothWays(t, replies())
}

func namesBothWays[T comparable](t *testing.T, f face[T]) {
	for c := rune(0); c < 0x900; c++ {
		for _, g := range f.goods {
			for _, n := range f.names {
				x := g.thing
				if !f.used(x, n.tag) {
					continue
				}
				*n.at(&x) = "a" + string(c)
				f.want(t, x, roster.Valid("a"+string(c)))
			}
		}
	}
}

// What a caller does to a thing, or to the bytes that a body was made of, changes nothing that was handed out, then or later.
func TestNothingIsShared(t *testing.T) {
	nothingIsShared(t, orders())
	nothingIsShared(t, replies())
}

func nothingIsShared[T comparable](t *testing.T, f face[T]) {
	for _, g := range f.goods {
		bytes := []byte(text(g.fields...))
		first, at, e := f.decode(string(bytes))
		second := first
		if first != g.thing || at != 0 || e != api.OK || string(bytes) != text(g.fields...) {
			t.Fatalf("%+v, %d, %d, of %q", first, at, e, bytes)
		}
		s, _ := f.encode(first)
		for i := range bytes {
			bytes[i] = '?'
		}
		for _, n := range f.names {
			*n.at(&first) += "?"
		}
		for _, n := range f.numbers {
			*n.at(&first)++
		}
		if second != g.thing || s != text(g.fields...) {
			t.Fatalf("%+v, %q; asked for: %+v", second, s, g.thing)
		}
		f.wantThing(t, s, g.thing)
	}
}

// What is handed in stays as it is, and what was answered earlier changes nothing.
func TestNothingIsChanged(t *testing.T) {
	nothingIsChanged(t, orders())
	nothingIsChanged(t, replies())
}

func nothingIsChanged[T comparable](t *testing.T, f face[T]) {
	for _, g := range f.goods {
		x := g.thing
		for range 3 {
			if !f.right(x) || x != g.thing {
				t.Fatalf("right: %+v; it was: %+v", x, g.thing)
			}
			f.wantBody(t, x, g.fields)
			if x != g.thing {
				t.Fatalf("Encode: %+v; it was: %+v", x, g.thing)
			}
			wrong := g.thing
			*f.numbers[0].at(&wrong) = 0
			f.wantWrong(t, wrong)
			f.wantRefused(t, text(g.fields[0], "99=x"), 34, api.ErrMissing)
			f.wantThing(t, text(g.fields...), g.thing)
		}
	}
}
