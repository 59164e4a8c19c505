package ask_test

import (
	"math"
	"reflect"
	"slices"
	"strings"
	"testing"

	"spigot/api"
	"spigot/ask"
	"spigot/roster"
)

const (
	leastInt    = math.MinInt
	greatestInt = math.MaxInt
)

// good is an ask that is right, and its fields as they stand in its body.
type good struct {
	ask    api.Ask
	fields []string
}

// newOrder is what new orders have in common; its algorithm is none.
func newOrder(algo int) api.Ask {
	return api.Ask{Kind: api.AskNew, ID: "p", Account: "A", Symbol: "X", Side: api.Sell, Qty: 100, Price: 995, Algo: algo, Start: 3, End: 9}
}

// newFields are the fields of newOrder, and more behind them.
func newFields(algo string, more ...string) []string {
	return append([]string{"35=D", "11=p", "1=A", "55=X", "54=2", "38=100", "44=995", "5001=" + algo, "5002=3", "5003=9"}, more...)
}

// goods are one of each kind and of each algorithm.
func goods() []good {
	vwap, flow, berg := newOrder(api.Vwap), newOrder(api.Flow), newOrder(api.Berg)
	vwap.Curve = []int{1, 0, 30}
	flow.Rate = 500
	berg.Show = 20
	return []good{
		{newOrder(api.Twap), newFields("1")},
		{vwap, newFields("2", "5006=1,0,30")},
		{flow, newFields("3", "5004=500")},
		{berg, newFields("4", "5005=20")},
		{api.Ask{Kind: api.AskCancel, ID: "b", Target: "a"}, []string{"35=F", "11=b", "41=a"}},
		{api.Ask{Kind: api.AskAmend, ID: "b", Target: "a", Qty: 7, Price: 8, End: 9}, []string{"35=G", "11=b", "41=a", "38=7", "44=8", "5003=9"}},
		{api.Ask{Kind: api.AskPause, ID: "b", Target: "a"}, []string{"35=UP", "11=b", "41=a"}},
		{api.Ask{Kind: api.AskResume, ID: "b", Target: "a"}, []string{"35=UR", "11=b", "41=a"}},
	}
}

// text is the body of fields that are written as `35=D`.
func text(fields ...string) string {
	s := ""
	for _, f := range fields {
		s += f + "\x01"
	}
	return s
}

// same holds two asks against each other; of curves an empty one is as good as none.
func same(a, b api.Ask) bool {
	equal := slices.Equal(a.Curve, b.Curve)
	a.Curve, b.Curve = nil, nil
	return equal && reflect.DeepEqual(a, b)
}

func wantRight(t *testing.T, a api.Ask) {
	t.Helper()
	if !ask.Right(a) {
		t.Fatalf("not right: %+v", a)
	}
	s, e := ask.Encode(a)
	if s == "" || e != api.OK {
		t.Fatalf("Encode(%+v): %q, %d", a, s, e)
	}
	wantAsk(t, s, a)
}

func wantWrong(t *testing.T, a api.Ask) {
	t.Helper()
	if ask.Right(a) {
		t.Fatalf("right: %+v", a)
	}
	if s, e := ask.Encode(a); s != "" || e != api.ErrArg {
		t.Fatalf("Encode(%+v): %q, %d", a, s, e)
	}
}

func wantAsk(t *testing.T, s string, asked api.Ask) {
	t.Helper()
	a, at, e := ask.Decode(s)
	if !same(a, asked) || at != 0 || e != api.OK {
		t.Fatalf("Decode(%q): %+v, %d, %d; asked for: %+v", s, a, at, e, asked)
	}
	if !ask.Right(a) {
		t.Fatalf("Decode(%q): %+v, which isn't right", s, a)
	}
}

func wantRefused(t *testing.T, s string, tag int, asked api.Errno) {
	t.Helper()
	a, at, e := ask.Decode(s)
	if !same(a, api.Ask{}) || at != tag || e != asked {
		t.Fatalf("Decode(%.200q): %+v, %d, %d; asked for: %d, %d", s, a, at, e, tag, asked)
	}
}

// The chapter's example.
func TestExamples(t *testing.T) {
	cancel := api.Ask{Kind: api.AskCancel, ID: "b", Target: "a"}
	if s, e := ask.Encode(cancel); s != "35=F\x0111=b\x0141=a\x01" || e != api.OK {
		t.Fatalf("%q, %d", s, e)
	}
	wantAsk(t, "35=F\x0111=b\x0141=a\x01", cancel)
}

// P12.1, P12.3: each kind and each algorithm is encoded to the byte, decoded as it was, and encoded again.
func TestBothWays(t *testing.T) {
	for _, g := range goods() {
		wantRight(t, g.ask)
		s, e := ask.Encode(g.ask)
		if s != text(g.fields...) || e != api.OK {
			t.Fatalf("Encode(%+v): %q, %d; asked for: %q", g.ask, s, e, text(g.fields...))
		}
		a, _, _ := ask.Decode(s)
		if again, e := ask.Encode(a); again != s || e != api.OK {
			t.Fatalf("Encode of what was decoded: %q, %d; asked for: %q", again, e, s)
		}
	}
}

// P12.3: the greatest of everything at once has room, in the fields and in the body.
func TestGreatest(t *testing.T) {
	long := strings.Repeat("😀", api.MaxName)
	for _, g := range goods() {
		a := g.ask
		a.ID = long
		if a.Kind == api.AskNew {
			a.Account, a.Symbol = long, long
			a.Qty, a.Price = api.MaxQty, api.MaxPrice
			a.Start, a.End = api.MaxTime-api.MaxSpan, api.MaxTime
		} else {
			a.Target = long
		}
		switch a.Algo {
		case api.Vwap:
			a.Curve = slices.Repeat([]int{api.MaxWeight}, api.MaxBuckets)
		case api.Flow:
			a.Rate = api.MaxRate
		case api.Berg:
			a.Show = api.MaxQty
		}
		if a.Kind == api.AskAmend {
			a.Qty, a.Price, a.End = api.MaxQty, api.MaxPrice, api.MaxTime
		}
		wantRight(t, a)
		if s, _ := ask.Encode(a); len(s) > api.MaxBody {
			t.Fatalf("a body of %d bytes", len(s))
		}
	}
}

// P12.1: a kind that is none is never right, whichever kind the rest is of.
func TestNoKind(t *testing.T) {
	wantWrong(t, api.Ask{})
	for _, g := range goods() {
		for _, kind := range []int{0, -1, api.AskResume + 1, -api.AskNew, -api.AskResume, 7, 8, 1<<8 + g.ask.Kind, 1<<32 + g.ask.Kind, leastInt, leastInt + g.ask.Kind, greatestInt} {
			a := g.ask
			a.Kind = kind
			wantWrong(t, a)
		}
	}
}

// P12.1: each kind that stands for another one is right just where both have the same fields.
func TestOtherKind(t *testing.T) {
	plain := []int{api.AskCancel, api.AskPause, api.AskResume}
	for _, g := range goods() {
		for kind := api.AskNew; kind <= api.AskResume; kind++ {
			a := g.ask
			a.Kind = kind
			if kind == g.ask.Kind || slices.Contains(plain, kind) && slices.Contains(plain, g.ask.Kind) {
				wantRight(t, a)
			} else {
				wantWrong(t, a)
			}
		}
	}
}

// A field that Encode writes is named by layer 4 as it stands in the body, whatever its runes are.
func TestNamesBothWays(t *testing.T) {
	for c := rune(0); c < 0x3000; c++ {
		name := "a" + string(c)
		for _, g := range goods() {
			a := g.ask
			a.ID = name
			if roster.Valid(name) {
				wantRight(t, a)
			} else {
				wantWrong(t, a)
			}
		}
	}
}
