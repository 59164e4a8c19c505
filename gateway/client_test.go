package gateway_test

import (
	"strconv"
	"strings"
	"testing"

	"spigot/api"
)

// bodyOf is the body of order0, with bars for the byte 1.
const bodyOf = "35=D|11=p|1=A|55=X|54=1|38=100|44=1000|5001=1|5002=0|5003=10|"

// P29.4: bytes that are cut off anywhere, and those with bytes behind them.
func TestBytesCutOff(t *testing.T) {
	for _, a := range []api.Ask{order("p"), cancelOf("p"), amendOf("p", 100, 1000, 20)} {
		x := newPair(t, setup())
		bytes := askBytes(t, a)
		for i := range bytes {
			x.want(x.raw(bytes[:i]), api.ErrShort, reject(0, 0, api.ErrShort))
		}
		for _, behind := range []string{"x", "\x01", "\x00", "\xff", "8", bytes, bytes[:9], strings.Repeat(bytes, 3)} {
			x.want(x.raw(bytes+behind), api.ErrSpare, reject(0, 0, api.ErrSpare))
		}
		for _, ahead := range []string{"x", "\x01", "\x00", "\xff", " "} {
			x.want(x.raw(ahead+bytes), api.ErrBegin, reject(0, 0, api.ErrBegin))
		}
	}
	// What came then is taken as the first one.
	x := newPair(t, setup())
	x.raw("")
	x.raw(askBytes(t, order("p")) + "x")
	x.want(x.ask(order("p")), api.OK, stands(1, "p", 0, 0, 100))
}

// P29.4: each of layer 10's errors is a reject of the tag 0, of a client and of a venue.
func TestLayer10sErrors(t *testing.T) {
	good := sealed(bodyOf)
	for _, c := range []struct {
		bytes string
		e     api.Errno
	}{
		{"", api.ErrShort},
		{"x", api.ErrBegin},
		{strings.Replace(good, "4.4", "4.2", 1), api.ErrBegin},
		{strings.Replace(good, "\x019=", "\x019=0", 1), api.ErrLength},
		{strings.Replace(good, "\x019=", "\x019=x", 1), api.ErrLength},
		{"8=FIX.4.4\x019=4097\x01", api.ErrLength},
		{"8=FIX.4.4\x019=\x01", api.ErrLength},
		{good[:len(good)-1], api.ErrShort},
		{strings.Replace(good, "\x0111=p", "\x0111=q", 1), api.ErrSum},
		{good[:len(good)-4] + "x00\x01", api.ErrSum},
		{sealed("x"), api.ErrTag},
		{sealed("035=D|"), api.ErrTag},
		{sealed("100000=D|"), api.ErrTag},
		{sealed("35=|"), api.ErrValue},
		{sealed("35=D|11=\x7f|"), api.ErrValue},
		{sealed("35=" + strings.Repeat("D", 513) + "|"), api.ErrValue},
		{sealed("35=D|11=p"), api.ErrOpen},
		{sealed("35"), api.ErrOpen},
		{sealed(manyFields(65)), api.ErrBig},
	} {
		x := newPair(t, setup())
		x.want(x.raw(c.bytes), c.e, reject(0, 0, c.e))
		x.want(x.rawOf("V", c.bytes), c.e, reject(1, 0, c.e))
		x.want(x.rawOf("W", c.bytes), c.e, reject(2, 0, c.e))
	}
}

// manyFields are so many, the first one of a kind.
func manyFields(n int) string {
	body := "35=D|"
	for i := range n - 1 {
		body += strconv.Itoa(i+100) + "=1|"
	}
	return body
}

// P29.4: each of layer 12's errors, with its tag: of the kind in a TellOther, all others in a TellReject.
func TestLayer12sErrors(t *testing.T) {
	with := func(old, new string) string { return strings.Replace(bodyOf, old, new, 1) }
	x := newPair(t, setup())
	for _, c := range []struct {
		body string
		tag  int
		e    api.Errno
	}{
		{"11=p|35=D|", 0, api.ErrMissing},
		{"1=1|", 0, api.ErrMissing},
		{with("1=A", "11=A"), 0, api.ErrRepeat},
		{bodyOf + "35=D|", 0, api.ErrRepeat},
		{with("11=p|", ""), 11, api.ErrMissing},
		{with("|1=A|", "|"), 1, api.ErrMissing},
		{with("55=X|", ""), 55, api.ErrMissing},
		{with("54=1|", ""), 54, api.ErrMissing},
		{with("38=100|", ""), 38, api.ErrMissing},
		{with("44=1000|", ""), 44, api.ErrMissing},
		{with("5001=1|", ""), 5001, api.ErrMissing},
		{with("5002=0|", ""), 5002, api.ErrMissing},
		{with("5003=10|", ""), 5003, api.ErrMissing},
		{with("5001=1", "5001=2"), 5006, api.ErrMissing},
		{with("5001=1", "5001=3"), 5004, api.ErrMissing},
		{with("5001=1", "5001=4"), 5005, api.ErrMissing},
		{with("11=p", "11==p"), 11, api.ErrName},
		{with("1=A", "1=a b"), 1, api.ErrName},
		{with("55=X", "55="+strings.Repeat("X", 21)), 55, api.ErrName},
		{with("54=1", "54=B"), 54, api.ErrForm},
		{with("38=100", "38=0100"), 38, api.ErrForm},
		{with("38=100", "38=-1"), 38, api.ErrForm},
		{with("54=1", "54=3"), 54, api.ErrArg},
		{with("38=100", "38=0"), 38, api.ErrArg},
		{with("38=100", "38=1099511627777"), 38, api.ErrArg},
		{with("44=1000", "44=0"), 44, api.ErrArg},
		{with("5001=1", "5001=0"), 5001, api.ErrArg},
		{with("5001=1", "5001=5"), 5001, api.ErrArg},
		{with("5003=10", "5003=1099511627777"), 5003, api.ErrArg},
		{with("5001=1", "5001=3") + "5004=10001|", 5004, api.ErrArg},
		{with("5001=1", "5001=4") + "5005=0|", 5005, api.ErrArg},
		{with("5001=1", "5001=2") + "5006=1" + strings.Repeat(",1", 64) + "|", 5006, api.ErrBig},
		{with("5001=1", "5001=2") + "5006=1,|", 5006, api.ErrForm},
		{with("5001=1", "5001=2") + "5006=0,0|", 5006, api.ErrCurve},
		{bodyOf + "58=x|", 58, api.ErrSpare},
		{bodyOf + "5004=1|", 5004, api.ErrSpare},
		{bodyOf + "99999=x|", 99999, api.ErrSpare},
		{with("5003=10", "5003=0"), 5003, api.ErrTime},
		{with("5003=10", "5003=1073741825"), 5003, api.ErrTime},
		{"35=F|11=z|", 41, api.ErrMissing},
		{"35=F|11=z|41=p|38=1|", 38, api.ErrSpare},
		{"35=G|11=z|41=p|38=100|44=0|5003=10|", 44, api.ErrArg},
		{"35=UP|41=p|", 11, api.ErrMissing},
		{"35=UR|11=z|41=p p|", 41, api.ErrName},
	} {
		x.want(x.raw(sealed(c.body)), c.e, reject(0, c.tag, c.e))
	}
	for _, kind := range []string{"A", "0", "8", "9", "3", "j", "d", "DD", "U", "UQ", "1=2"} {
		x.want(x.raw(sealed(with("35=D", "35="+kind))), api.ErrType, other(0, 35, api.ErrType))
		x.want(x.raw(sealed("35="+kind+"|")), api.ErrType, "0 35=j|371=35|380=120|")
	}
	// None of these was a report.
	x.want(x.raw(sealed("35=D|")), api.ErrMissing, "0 35=3|371=11|373=110|")
	x.want(x.ask(order("p")), api.OK, stands(1, "p", 0, 0, 100))
}

// trouble is a thing that is wrong with a new order, or with the gateway that it comes to.
type trouble struct {
	e    api.Errno
	bend func(s *api.Setup, a *api.Ask)
}

// troubles are in the chapter's order, the gate's in that of layer 16.
func troubles() []trouble {
	return []trouble{
		{api.ErrKilled, func(*api.Setup, *api.Ask) {}},
		{api.ErrUnknown, func(_ *api.Setup, a *api.Ask) { a.Account = "X" }},
		{api.ErrUnknown, func(_ *api.Setup, a *api.Ask) { a.Symbol = "A" }},
		{api.ErrTwice, func(_ *api.Setup, a *api.Ask) { a.ID = "p" }},
		{api.ErrFull, func(s *api.Setup, _ *api.Ask) { s.Parents = 2 }},
		{api.ErrTime, func(_ *api.Setup, a *api.Ask) { a.End = 5 }},
		{api.ErrLot, func(_ *api.Setup, a *api.Ask) { a.Qty += 5 }},
		{api.ErrQty, func(s *api.Setup, _ *api.Ask) { s.Symbols[0].Most = 99 }},
		{api.ErrTick, func(_ *api.Setup, a *api.Ask) { a.Price++ }},
		{api.ErrBand, func(_ *api.Setup, a *api.Ask) { a.Price += 20 }},
		{api.ErrNotional, func(s *api.Setup, _ *api.Ask) { s.Symbols[0].Worth = 99999 }},
		{api.ErrLimit, func(s *api.Setup, _ *api.Ask) { s.Accounts[1].Limit = 2*2000 + 99999 }},
	}
}

// P29.4: AskNew with each of the errors, and with each set of them: the first one is told, in a report of its own; and one that has none is taken.
func TestNewOrdersErrors(t *testing.T) {
	all := troubles()
	for set := range 1 << len(all) {
		s, a, want := setup(), order("r"), api.OK
		for i, one := range all {
			if set&(1<<i) == 0 {
				continue
			}
			one.bend(&s, &a)
			if want == api.OK {
				want = one.e
			}
		}
		x := begun(t, s, small("p"), small("q"))
		x.ticks(5)
		if set&1 != 0 {
			x.done(x.kill())
		}
		if want == api.OK {
			x.want(x.ask(a), want, stands(3, "r", 0, 0, 100))
			continue
		}
		x.want(x.ask(a), want, notTaken(3, a.ID, want))
		x.want(x.ask(a), want, notTaken(4, a.ID, want))
	}
}

// P29.4: what a report of a refused order has, to the byte.
func TestRefusedReport(t *testing.T) {
	x := newPair(t, setup())
	a := order("an-order.of/20*runes")
	a.Qty = 1010
	x.want(x.ask(a), api.ErrQty, "0 35=8|11=an-order.of/20*runes|17=x1|39=8|32=0|31=0|14=0|151=0|103=160|")
	a.Qty = 100
	x.want(x.ask(a), api.OK, "0 35=8|11=an-order.of/20*runes|17=x2|39=0|32=0|31=0|14=0|151=100|103=0|")
}

// P29.4: an ID that was taken stays so, in whatever state its parent is; one that was refused doesn't count.
func TestTwice(t *testing.T) {
	for _, s := range standings() {
		x := s.bring(t)
		n := x.m.reports
		x.want(x.ask(order("p")), api.ErrTwice, notTaken(n+1, "p", api.ErrTwice))
		x.want(x.ask(small("p")), api.ErrTwice, notTaken(n+2, "p", api.ErrTwice))
		x.done(x.ask(order("P")), x.ask(order("p2")))
	}
	x := newPair(t, setup())
	bad := order("p")
	bad.Qty = 5
	x.want(x.ask(bad), api.ErrLot, notTaken(1, "p", api.ErrLot))
	x.done(x.ask(order("p")))
}

// P29.4: just Parents of them, and one more; those that are done count too.
func TestFull(t *testing.T) {
	for _, room := range []int{1, 2, 3, 64} {
		s := setup()
		s.Parents, s.Accounts[1].Limit = room, mostLimit
		x := newPair(t, s)
		for i := range room {
			id := "p" + strconv.Itoa(i)
			x.want(x.ask(order(id)), api.OK, stands(i+1+i/2*2, id, 0, 0, 100))
			if i%2 == 1 {
				x.want(x.ask(cancelOf(id)), api.OK, stands(2*i+1, id, 6, 0, 0), stands(2*i+2, id, 4, 0, 0))
			}
		}
		n := x.m.reports
		x.want(x.ask(order("q")), api.ErrFull, notTaken(n+1, "q", api.ErrFull))
		x.want(x.ask(order("p0")), api.ErrTwice, notTaken(n+2, "p0", api.ErrTwice))
		for i := range room {
			x.ask(cancelOf("p" + strconv.Itoa(i)))
		}
		n = x.m.reports
		x.want(x.ask(order("q")), api.ErrFull, notTaken(n+1, "q", api.ErrFull))
	}
}

// P29.4: an End at the tick, and one above it.
func TestEndOfNewOrders(t *testing.T) {
	for now := range 4 {
		for end := 1; end <= 5; end++ {
			x := newPair(t, setup())
			x.ticks(now)
			a := order("p")
			a.End = end
			if end <= now {
				x.want(x.ask(a), api.ErrTime, notTaken(1, "p", api.ErrTime))
			} else {
				x.want(x.ask(a), api.OK, stands(1, "p", 0, 0, 100))
			}
		}
	}
}

// P29.4: a need of just what the account has left, and one above.
func TestNewOrdersNeed(t *testing.T) {
	for _, a := range []api.Ask{order("p"), sale("p")} {
		need := 100000
		if a.Side == api.Sell {
			need = 101000
		}
		for _, left := range []int{0, 1, need - 1, need, need + 1} {
			s := setup()
			s.Accounts[1].Limit = left
			x := newPair(t, s)
			if left < need {
				x.want(x.ask(a), api.ErrLimit, notTaken(1, "p", api.ErrLimit))
				x.wantBook(1, 0, 0)
			} else {
				x.want(x.ask(a), api.OK, stands(1, "p", 0, 0, 100))
				x.wantBook(1, need, 0, need)
			}
			x.wantBook(0, 0, 0, x.g.View().Held...)
		}
	}
}

// P29.4: what is left is less what is reserved for others and what was realised, of the same account alone.
func TestNewOrdersNeedBesideOthers(t *testing.T) {
	for _, more := range []int{-1, 0, 1} {
		s := setup()
		s.Accounts[1].Limit = 20000 + 100000 + 101000 + more
		a := iceberg("p")
		a.Qty, a.Show = 20, 20
		other := order("r")
		other.Account = "A"
		x := begun(t, s, a, other)
		x.done(x.tick(), x.say("V", trades("c1", "e", 20, 1000)))
		x.wantState("p", api.PFilled)
		x.done(x.ask(order("q")))
		x.wantBook(1, 120000, 20000, 0, 100000, 100000)
		if more < 0 {
			x.want(x.ask(sale("s")), api.ErrLimit, notTaken(6, "s", api.ErrLimit))
		} else {
			x.want(x.ask(sale("s")), api.OK, stands(6, "s", 0, 0, 100))
			x.wantBook(1, 221000, 20000, 0, 100000, 100000, 101000)
		}
		x.wantBook(0, 100000, 0, x.g.View().Held...)
	}
}
