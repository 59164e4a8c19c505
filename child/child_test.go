package child_test

import (
	"strings"
	"testing"

	"spigot/api"
	"spigot/child"
	"spigot/matrix"
)

const (
	leastInt    = -1 << 63
	greatestInt = 1<<63 - 1
)

// call is a call of a child that answers an error, with its quantity and its price where it has them.
type call struct {
	name       string
	qty, price int
}

var (
	ack      = call{name: "Ack"}
	canceled = call{name: "Canceled"}
	rejected = call{name: "Rejected"}
	replaced = call{name: "Replaced"}
	refused  = call{name: "Refused"}
	cancel   = call{name: "Cancel"}
)

func trade(qty int) call          { return call{name: "Trade", qty: qty} }
func bust(qty int) call           { return call{name: "Bust", qty: qty} }
func replace(qty, price int) call { return call{"Replace", qty, price} }

// of makes the call of a child.
func (k call) of(c *child.Child) api.Errno {
	switch k.name {
	case "Ack":
		return c.Ack()
	case "Canceled":
		return c.Canceled()
	case "Rejected":
		return c.Rejected()
	case "Replaced":
		return c.Replaced()
	case "Refused":
		return c.Refused()
	case "Cancel":
		return c.Cancel()
	case "Trade":
		return c.Trade(k.qty)
	case "Bust":
		return c.Bust(k.qty)
	case "Replace":
		return c.Replace(k.qty, k.price)
	}
	panic("no call: " + k.name)
}

// plain is a child as the chapter's words have it, rule by rule.
type plain struct {
	api.Child
	asked int // the greatest quantity that was asked for
}

func newPlain(id, venue string, side, qty, price int) *plain {
	p := &plain{api.Child{ID: id, Venue: venue, Side: side, State: api.SPending, Qty: qty, Price: price}, qty}
	p.Claim = p.claim()
	return p
}

func (p *plain) done() bool {
	return p.State == api.SFilled || p.State == api.SCanceled || p.State == api.SRejected
}

func (p *plain) claim() int {
	switch {
	case p.done():
		return 0
	case p.State == api.SReplacing && p.NextQty > p.Qty:
		return p.NextQty - p.Cum
	}
	return p.Qty - p.Cum
}

func (p *plain) cover() int {
	if p.State == api.SReplacing && p.NextPrice > p.Price {
		return p.NextPrice
	}
	return p.Price
}

// refuses is the error of a call, or OK.
func (p *plain) refuses(k call) api.Errno {
	switch k.name {
	case "Replace":
		if k.qty <= p.Cum || k.qty > api.MaxQty || k.price < 1 || k.price > api.MaxPrice {
			return api.ErrArg
		}
	case "Trade":
		switch {
		case k.qty < 1:
			return api.ErrArg
		case p.done():
			return api.ErrState
		case k.qty > p.claim():
			return api.ErrBig
		}
	case "Bust":
		if k.qty < 1 || k.qty > p.Cum {
			return api.ErrArg
		}
	}
	_, e := matrix.Next(p.State, p.event(k), p.Cum)
	return e
}

func (p *plain) event(k call) int {
	if k.name == "Trade" && k.qty == p.claim() {
		return api.EFill
	}
	return map[string]int{
		"Ack": api.EAck, "Canceled": api.ECanceled, "Rejected": api.ERejected, "Replaced": api.EReplaced, "Refused": api.ERefused,
		"Cancel": api.ECancel, "Replace": api.EReplace, "Trade": api.ETrade, "Bust": api.EBust,
	}[k.name]
}

// do makes a call of it.
func (p *plain) do(k call) api.Errno {
	if e := p.refuses(k); e != api.OK {
		return e
	}
	before, event := p.State, p.event(k)
	switch k.name {
	case "Trade":
		p.Cum += k.qty
	case "Bust":
		p.Cum -= k.qty
		p.Qty -= k.qty
		if before == api.SReplacing {
			p.NextQty -= k.qty
		}
	case "Replace":
		p.NextQty, p.NextPrice = k.qty, k.price
		p.asked = max(p.asked, k.qty)
	case "Replaced":
		p.Qty, p.Price = p.NextQty, p.NextPrice
		p.NextQty, p.NextPrice = 0, 0
	case "Refused":
		p.NextQty, p.NextPrice = 0, 0
	}
	p.State, _ = matrix.Next(before, event, p.Cum)
	if (k.name == "Replaced" || k.name == "Refused") && p.Cum >= p.Qty {
		p.State = api.SFilled
	}
	if p.done() {
		p.NextQty, p.NextPrice = 0, 0
	}
	p.Claim = p.claim()
	return api.OK
}

// pair is a child and the plain one beside it: whatever is done with both, all that is told must be the same.
type pair struct {
	t *testing.T
	c *child.Child
	p *plain
}

func newPair(t *testing.T, side, qty, price int, calls ...call) *pair {
	t.Helper()
	c, e := child.New("c1", "V", side, qty, price)
	if c == nil || e != api.OK {
		t.Fatalf("New(c1, V, %d, %d, %d): %v, %d", side, qty, price, c, e)
	}
	x := &pair{t, c, newPlain("c1", "V", side, qty, price)}
	x.same()
	for _, k := range calls {
		if e := x.do(k); e != api.OK {
			t.Fatalf("%v of %+v: %d", k, c.Status(), e)
		}
	}
	return x
}

// do makes a call of both. It holds P21.4 against what was told ahead of it, too.
func (x *pair) do(k call) api.Errno {
	x.t.Helper()
	before := x.c.Status()
	e, want := k.of(x.c), x.p.do(k)
	after := x.c.Status()
	if e != want {
		x.t.Fatalf("%v of %+v: %d; the document asks for %d", k, before, e, want)
	}
	if e != api.OK && after != before {
		x.t.Fatalf("%v of %+v was refused; then it is %+v", k, before, after)
	}
	x.same()
	switch {
	case k.name != "Replace" && after.Cum+after.Claim > before.Cum+before.Claim:
		x.t.Fatalf("%v of %+v: executed and claimed grow: %+v", k, before, after)
	case after.Cum+after.Claim > x.p.asked:
		x.t.Fatalf("%v of %+v: more than %d, which was asked for: %+v", k, before, x.p.asked, after)
	case after.ID != before.ID || after.Venue != before.Venue || after.Side != before.Side:
		x.t.Fatalf("%v of %+v: it is another order: %+v", k, before, after)
	}
	return e
}

// same looks at all that is told.
func (x *pair) same() {
	x.t.Helper()
	wantTold(x.t, x.c, x.p.Child, !x.p.done(), x.p.cover())
}

// wantTold asks twice, as being asked changes nothing.
func wantTold(t *testing.T, c *child.Child, s api.Child, open bool, cover int) {
	t.Helper()
	for range 2 {
		if got := c.Status(); got != s {
			t.Fatalf("Status: %+v; the document asks for %+v", got, s)
		}
		if c.Claim() != s.Claim || c.Open() != open || c.Cover() != cover {
			t.Fatalf("of %+v: Claim %d, Open %v, Cover %d; the document asks for %d, %v, %d", s, c.Claim(), c.Open(), c.Cover(), s.Claim, open, cover)
		}
	}
}

// wantDo makes a call of both that is to answer e.
func (x *pair) wantDo(k call, e api.Errno) {
	x.t.Helper()
	before := x.c.Status()
	if got := x.do(k); got != e {
		x.t.Fatalf("%v of %+v: %d; the document asks for %d", k, before, got, e)
	}
}

// wantNow is how it stands.
func (x *pair) wantNow(state, qty, price, nextQty, nextPrice, cum, claim, cover int) {
	x.t.Helper()
	s := api.Child{ID: "c1", Venue: "V", Side: x.p.Side, State: state, Qty: qty, Price: price, NextQty: nextQty, NextPrice: nextPrice, Cum: cum, Claim: claim}
	wantTold(x.t, x.c, s, state <= api.SReplacing, cover)
}

// noNames are texts that are no names, for one reason each.
func noNames() []string {
	return []string{"", " ", "a b", "a\x7f", "a=b", "=", "a\x00", "a\x01", "\n", "\xff", "a\xc3", "\ufffd", strings.Repeat("a", api.MaxName+1), strings.Repeat("é", api.MaxName+1)}
}

func names() []string {
	return []string{"a", "!", "~", "c1", "é", "世", strings.Repeat("a", api.MaxName), strings.Repeat("é", api.MaxName)}
}

// wantNo asks for no child beside the error.
func wantNo(t *testing.T, id, venue string, side, qty, price int, e api.Errno) {
	t.Helper()
	if c, got := child.New(id, venue, side, qty, price); c != nil || got != e {
		t.Fatalf("New(%q, %q, %d, %d, %d): %v, %d; the document asks for %d", id, venue, side, qty, price, c, got, e)
	}
}

// noQtys are no quantities and no prices: both have the same ends.
func noQtys() []int {
	return []int{0, -1, -10, api.MaxQty + 1, 1 << 41, -1 << 40, leastInt, leastInt + 1, greatestInt - 1, greatestInt}
}

func qtys() []int {
	return []int{1, 2, 10, 99, 1 << 32, api.MaxQty - 1, api.MaxQty}
}

func noSides() []int {
	return []int{0, -1, -2, 3, 4, 1<<32 + 1, 1<<32 + 2, leastInt, leastInt + 1, greatestInt}
}

// P21.1: what is right is a child in SPending, with nothing executed and all of it claimed.
func TestNew(t *testing.T) {
	for _, side := range []int{api.Buy, api.Sell} {
		for _, qty := range qtys() {
			for _, price := range qtys() {
				c, e := child.New("c1", "V", side, qty, price)
				if e != api.OK {
					t.Fatalf("New of %d, %d, %d: %d", side, qty, price, e)
				}
				wantTold(t, c, api.Child{ID: "c1", Venue: "V", Side: side, State: api.SPending, Qty: qty, Price: price, Claim: qty}, true, price)
			}
		}
	}
	for _, id := range names() {
		for _, venue := range names() {
			c, e := child.New(id, venue, api.Buy, 10, 99)
			if e != api.OK {
				t.Fatalf("New(%q, %q): %d", id, venue, e)
			}
			wantTold(t, c, api.Child{ID: id, Venue: venue, Side: api.Buy, State: api.SPending, Qty: 10, Price: 99, Claim: 10}, true, 99)
		}
	}
}

// P21.1: what is no name is ErrName, in id, in venue, and in both, ahead of whatever else is wrong.
func TestNoName(t *testing.T) {
	for _, bad := range noNames() {
		wantNo(t, bad, "V", api.Buy, 10, 99, api.ErrName)
		wantNo(t, "c", bad, api.Sell, 10, 99, api.ErrName)
		for _, other := range noNames() {
			wantNo(t, bad, other, api.Buy, 10, 99, api.ErrName)
		}
		for _, n := range noQtys() {
			wantNo(t, bad, "V", api.Buy, n, 99, api.ErrName)
			wantNo(t, bad, "V", api.Buy, 10, n, api.ErrName)
			wantNo(t, "c", bad, api.Buy, n, 99, api.ErrName)
			wantNo(t, "c", bad, api.Buy, 10, n, api.ErrName)
		}
		for _, side := range noSides() {
			wantNo(t, bad, "V", side, 10, 99, api.ErrName)
			wantNo(t, "c", bad, side, 10, 99, api.ErrName)
			wantNo(t, bad, bad, side, 0, 0, api.ErrName)
		}
	}
}

// P21.1: a side, a quantity and a price that may not be are ErrArg, each alone and together.
func TestNoOrder(t *testing.T) {
	for _, side := range noSides() {
		for _, n := range qtys() {
			wantNo(t, "c", "V", side, n, 99, api.ErrArg)
			wantNo(t, "c", "V", side, 10, n, api.ErrArg)
		}
		for _, n := range noQtys() {
			wantNo(t, "c", "V", side, n, 99, api.ErrArg)
			wantNo(t, "c", "V", side, 10, n, api.ErrArg)
			wantNo(t, "c", "V", side, n, n, api.ErrArg)
		}
	}
	for _, side := range []int{api.Buy, api.Sell} {
		for _, bad := range noQtys() {
			for _, n := range qtys() {
				wantNo(t, "c", "V", side, bad, n, api.ErrArg)
				wantNo(t, "c", "V", side, n, bad, api.ErrArg)
			}
			for _, other := range noQtys() {
				wantNo(t, "c", "V", side, bad, other, api.ErrArg)
			}
		}
	}
}

// P21.1 to P21.3: of a Child that is nil, or that New did not make, whatever the arguments: ErrNil, and nothing else; it stays so.
func TestNotMade(t *testing.T) {
	for _, c := range []*child.Child{nil, {}, new(child.Child)} {
		for _, k := range everyCall(10) {
			if e := k.of(c); e != api.ErrNil {
				t.Fatalf("%v: %d", k, e)
			}
			wantTold(t, c, api.Child{}, false, 0)
		}
	}
}

// P21.2 and P21.3: no child knows of another one.
func TestTwoChildren(t *testing.T) {
	a, b := newPair(t, api.Buy, 10, 99), newPair(t, api.Sell, 20, 98)
	a.wantDo(trade(4), api.OK)
	b.wantNow(api.SPending, 20, 98, 0, 0, 0, 20, 98)
	b.wantDo(ack, api.OK)
	b.wantDo(replace(30, 97), api.OK)
	a.wantNow(api.SPartial, 10, 99, 0, 0, 4, 6, 99)
	a.wantDo(canceled, api.OK)
	b.wantNow(api.SReplacing, 20, 98, 30, 97, 0, 30, 98)
}

// P21.3: what was told stays as it was told.
func TestStatusIsACopy(t *testing.T) {
	x := newPair(t, api.Buy, 10, 99, trade(4))
	s := x.c.Status()
	s.Cum, s.Qty, s.State, s.ID = 7, 70, api.SFilled, "other"
	x.wantNow(api.SPartial, 10, 99, 0, 0, 4, 6, 99)
	s = x.c.Status()
	x.wantDo(trade(6), api.OK)
	if s.Cum != 4 || s.State != api.SPartial || s.Claim != 6 {
		t.Fatalf("what was told is %+v now", s)
	}
}

// The chapter's examples.
func TestExamples(t *testing.T) {
	x := newPair(t, api.Buy, 10, 99)
	x.wantDo(trade(4), api.OK)
	x.wantNow(api.SPartial, 10, 99, 0, 0, 4, 6, 99)
	x.wantDo(replace(20, 98), api.OK)
	x.wantNow(api.SReplacing, 10, 99, 20, 98, 4, 16, 99)
	x.wantDo(trade(7), api.OK)
	x.wantNow(api.SReplacing, 10, 99, 20, 98, 11, 9, 99)
	x.wantDo(refused, api.OK)
	x.wantNow(api.SFilled, 10, 99, 0, 0, 11, 0, 99)
}
