package tell_test

import (
	"math"
	"slices"
	"strings"
	"testing"

	"spigot/api"
	"spigot/roster"
	"spigot/tell"
)

const (
	leastInt    = math.MinInt
	greatestInt = math.MaxInt
)

// good is a tell that is right, and its fields as they stand in its body.
type good struct {
	tell   api.Tell
	fields []string
}

// goods are one of each kind, no two of their numbers the same.
func goods() []good {
	return []good{
		{
			api.Tell{Kind: api.TellReport, ID: "p", Exec: "x1", Status: 1, Last: 5, Price: 995, Cum: 15, Leaves: 85, Reason: 41},
			[]string{"35=8", "11=p", "17=x1", "39=1", "32=5", "31=995", "14=15", "151=85", "103=41"},
		},
		{api.Tell{Kind: api.TellCancel, ID: "p", Status: 9, Reason: 200}, []string{"35=9", "11=p", "39=9", "103=200"}},
		{api.Tell{Kind: api.TellReject, Tag: 38, Reason: 112}, []string{"35=3", "371=38", "373=112"}},
		{api.Tell{Kind: api.TellOther, Tag: 35, Reason: 120}, []string{"35=j", "371=35", "380=120"}},
	}
}

// text is the body of fields that are written as `35=8`.
func text(fields ...string) string {
	s := ""
	for _, f := range fields {
		s += f + "\x01"
	}
	return s
}

// wantRight asks that a tell is right, is encoded, and is decoded as it was.
func wantRight(t *testing.T, x api.Tell) {
	t.Helper()
	if !tell.Right(x) {
		t.Fatalf("not right: %+v", x)
	}
	s, e := tell.Encode(x)
	if s == "" || e != api.OK {
		t.Fatalf("Encode(%+v): %q, %d", x, s, e)
	}
	wantTell(t, s, x)
}

func wantWrong(t *testing.T, x api.Tell) {
	t.Helper()
	if tell.Right(x) {
		t.Fatalf("right: %+v", x)
	}
	if s, e := tell.Encode(x); s != "" || e != api.ErrArg {
		t.Fatalf("Encode(%+v): %q, %d", x, s, e)
	}
}

// wantTell asks that a body is decoded as a tell that is right, and that what this one is encoded as is decoded as the same again.
func wantTell(t *testing.T, s string, asked api.Tell) {
	t.Helper()
	x, at, e := tell.Decode(s)
	if x != asked || at != 0 || e != api.OK {
		t.Fatalf("Decode(%q): %+v, %d, %d; asked for: %+v", s, x, at, e, asked)
	}
	if !tell.Right(x) {
		t.Fatalf("Decode(%q): %+v, which isn't right", s, x)
	}
	again, e := tell.Encode(x)
	if e != api.OK {
		t.Fatalf("Encode(%+v): %q, %d", x, again, e)
	}
	if y, at, e := tell.Decode(again); y != x || at != 0 || e != api.OK {
		t.Fatalf("Decode(%q): %+v, %d, %d; asked for: %+v", again, y, at, e, x)
	}
}

func wantRefused(t *testing.T, s string, tag int, asked api.Errno) {
	t.Helper()
	x, at, e := tell.Decode(s)
	if x != (api.Tell{}) || at != tag || e != asked {
		t.Fatalf("Decode(%.200q): %+v, %d, %d; asked for: %d, %d", s, x, at, e, tag, asked)
	}
}

// The chapter's example.
func TestExamples(t *testing.T) {
	refused := api.Tell{Kind: api.TellReject, Tag: 38, Reason: 112}
	if s, e := tell.Encode(refused); s != "35=3\x01371=38\x01373=112\x01" || e != api.OK {
		t.Fatalf("%q, %d", s, e)
	}
	wantTell(t, "35=3\x01371=38\x01373=112\x01", refused)
}

// P13.1, P13.3: each kind is encoded to the byte, decoded as it was, and encoded again.
func TestBothWays(t *testing.T) {
	for _, g := range goods() {
		wantRight(t, g.tell)
		s, e := tell.Encode(g.tell)
		if s != text(g.fields...) || e != api.OK {
			t.Fatalf("Encode(%+v): %q, %d; asked for: %q", g.tell, s, e, text(g.fields...))
		}
		x, _, _ := tell.Decode(s)
		if again, e := tell.Encode(x); again != s || e != api.OK {
			t.Fatalf("Encode of what was decoded: %q, %d; asked for: %q", again, e, s)
		}
	}
}

// P13.1, P13.3: the least and the greatest of everything at once: a nought stands in the body as a nought, and the greatest has room.
func TestLeastAndGreatest(t *testing.T) {
	long := strings.Repeat("😀", api.MaxName)
	for _, g := range []good{
		{api.Tell{Kind: api.TellReport, ID: "!", Exec: "!"}, []string{"35=8", "11=!", "17=!", "39=0", "32=0", "31=0", "14=0", "151=0", "103=0"}},
		{api.Tell{Kind: api.TellCancel, ID: "!"}, []string{"35=9", "11=!", "39=0", "103=0"}},
		{api.Tell{Kind: api.TellReject}, []string{"35=3", "371=0", "373=0"}},
		{api.Tell{Kind: api.TellOther}, []string{"35=j", "371=0", "380=0"}},
		{
			api.Tell{Kind: api.TellReport, ID: long, Exec: long, Status: 9, Last: api.MaxQty, Price: api.MaxPrice, Cum: api.MaxQty, Leaves: api.MaxQty, Reason: 999},
			[]string{"35=8", "11=" + long, "17=" + long, "39=9", "32=1099511627776", "31=1099511627776", "14=1099511627776", "151=1099511627776", "103=999"},
		},
		{api.Tell{Kind: api.TellCancel, ID: long, Status: 9, Reason: 999}, []string{"35=9", "11=" + long, "39=9", "103=999"}},
		{api.Tell{Kind: api.TellReject, Tag: api.MaxTag, Reason: 999}, []string{"35=3", "371=99999", "373=999"}},
		{api.Tell{Kind: api.TellOther, Tag: api.MaxTag, Reason: 999}, []string{"35=j", "371=99999", "380=999"}},
	} {
		wantRight(t, g.tell)
		wantTell(t, text(g.fields...), g.tell)
		if s, e := tell.Encode(g.tell); s != text(g.fields...) || e != api.OK || len(s) > api.MaxBody {
			t.Fatalf("Encode(%+v): %q, %d; asked for: %q", g.tell, s, e, text(g.fields...))
		}
	}
}

// P13.1: a kind that is none is never right, whichever kind the rest is of, nor if there is no rest.
func TestNoKind(t *testing.T) {
	for _, g := range append(goods(), good{}) {
		for _, kind := range []int{0, -1, -2, -3, -4, api.TellOther + 1, 6, 7, 8, 9, '3', 'j', 1<<8 + 1, 1<<8 + g.tell.Kind, 1<<32 + 1, 1<<32 + g.tell.Kind, leastInt, leastInt + 1, leastInt + g.tell.Kind, greatestInt} {
			x := g.tell
			x.Kind = kind
			wantWrong(t, x)
		}
	}
}

// P13.1: each kind that stands for another one is right just where both have the same fields.
func TestOtherKind(t *testing.T) {
	for _, g := range goods() {
		for kind := api.TellReport; kind <= api.TellOther; kind++ {
			x := g.tell
			x.Kind = kind
			if kind == g.tell.Kind || kind >= api.TellReject && g.tell.Kind >= api.TellReject {
				wantRight(t, x)
			} else {
				wantWrong(t, x)
			}
		}
	}
}

// A name that Encode writes is one by layer 4 as it stands in the body, whatever its runes are.
func TestNamesBothWays(t *testing.T) {
	for c := rune(0); c < 0x3000; c++ {
		for _, g := range goods()[:2] {
			for _, n := range names() {
				x := g.tell
				if !n.used(x) {
					continue
				}
				*n.at(&x) = "a" + string(c)
				if roster.Valid("a" + string(c)) {
					wantRight(t, x)
				} else {
					wantWrong(t, x)
				}
			}
		}
	}
}

// What a caller does to a tell or to the bytes that a body was made of changes nothing that was handed out, then or later.
func TestNothingIsShared(t *testing.T) {
	for _, g := range goods() {
		bytes := []byte(text(g.fields...))
		first, at, e := tell.Decode(string(bytes))
		second := first
		if first != g.tell || at != 0 || e != api.OK || string(bytes) != text(g.fields...) {
			t.Fatalf("%+v, %d, %d, of %q", first, at, e, bytes)
		}
		s, _ := tell.Encode(first)
		for i := range bytes {
			bytes[i] = '?'
		}
		for _, n := range names() {
			*n.at(&first) += "?"
		}
		for _, n := range numbers() {
			*n.at(&first)++
		}
		if second != g.tell || s != text(g.fields...) {
			t.Fatalf("%+v, %q; asked for: %+v", second, s, g.tell)
		}
		wantTell(t, s, g.tell)
	}
}

// What is handed in stays as it is, and what was answered earlier changes nothing.
func TestNothingIsChanged(t *testing.T) {
	for _, g := range goods() {
		x := g.tell
		for range 3 {
			if !tell.Right(x) || x != g.tell {
				t.Fatalf("Right: %+v; it was: %+v", x, g.tell)
			}
			if s, e := tell.Encode(x); s != text(g.fields...) || e != api.OK || x != g.tell {
				t.Fatalf("Encode: %+v, %q; it was: %+v", x, s, g.tell)
			}
			wantWrong(t, api.Tell{Kind: g.tell.Kind, Status: 10})
			wantRefused(t, text("35="+g.fields[0][3:], "99=x"), tagOf(g.fields[1]), api.ErrMissing)
			wantTell(t, text(g.fields...), g.tell)
		}
	}
}

// replaced are fields of which one has another value.
func replaced(fields []string, tag int, value string) []string {
	list := slices.Clone(fields)
	for i, field := range list {
		if tagOf(field) == tag {
			list[i] = form(tag, value)
		}
	}
	return list
}
