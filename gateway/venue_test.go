package gateway_test

import (
	"strconv"
	"strings"
	"testing"

	"spigot/api"
)

// repliesOf are a right reply of each kind but a bust.
func repliesOf(id, exec string) []api.Reply {
	list := []api.Reply{trades(id, exec, 4, 1000)}
	for _, kind := range []int{api.ReplyNew, api.ReplyCanceled, api.ReplyReplaced, api.ReplyRejected, api.ReplyRefused} {
		list = append(list, says(kind, id, exec))
	}
	return list
}

// P29.5: a venue that there isn't, whatever it sends: nothing goes out.
func TestNoSuchVenue(t *testing.T) {
	x := working(t)
	for _, name := range []string{"", "U", "v", "VW", "A", "X", "\xff"} {
		for _, bytes := range []string{"", "x", sealed("35=0|"), replyBytes(t, trades("c1", "e", 4, 1000)), replyBytes(t, trades("c1", "e", 11, 1000))} {
			x.want(x.rawOf(name, bytes), api.ErrUnknown)
		}
	}
	x.wantFaults(false, 0, 0)
	x.want(x.say("V", trades("c1", "e", 4, 1000)), api.OK, report(2, "p", 1, 4, 1000, 4, 96, 0))
}

// P29.5: bytes that are cut off anywhere, and those with bytes behind them; the number isn't taken by them.
func TestRepliesCutOff(t *testing.T) {
	x := working(t)
	for i, venue := range []string{"V", "W"} {
		bytes := replyBytes(t, trades("c1", "e", 4, 1000))
		for k := range bytes {
			x.want(x.rawOf(venue, bytes[:k]), api.ErrShort, reject(i+1, 0, api.ErrShort))
		}
		for _, behind := range []string{"x", "\x01", "\xff", bytes} {
			x.want(x.rawOf(venue, bytes+behind), api.ErrSpare, reject(i+1, 0, api.ErrSpare))
		}
	}
	x.want(x.say("V", trades("c1", "e", 4, 1000)), api.OK, report(2, "p", 1, 4, 1000, 4, 96, 0))
}

// P29.5: each of layer 14's errors, with its tag: of both kinds of kinds in a TellOther.
func TestLayer14sErrors(t *testing.T) {
	x := working(t)
	good := "35=8|34=1|11=c1|17=e|150=F|32=4|31=1000|"
	with := func(old, new string) string { return strings.Replace(good, old, new, 1) }
	for _, c := range []struct {
		body string
		tag  int
		e    api.Errno
	}{
		{"34=1|35=8|", 0, api.ErrMissing},
		{good + "11=c1|", 0, api.ErrRepeat},
		{with("34=1|", ""), 34, api.ErrMissing},
		{with("|11=c1|", "|"), 11, api.ErrMissing},
		{with("17=e|", ""), 17, api.ErrMissing},
		{with("150=F|", ""), 150, api.ErrMissing},
		{with("32=4|", ""), 32, api.ErrMissing},
		{with("31=1000|", ""), 31, api.ErrMissing},
		{with("34=1", "34=01"), 34, api.ErrForm},
		{with("34=1", "34=0"), 34, api.ErrArg},
		{with("34=1", "34=1099511627777"), 34, api.ErrArg},
		{with("11=c1", "11==c1"), 11, api.ErrName},
		{with("17=e", "17=e e"), 17, api.ErrName},
		{with("150=F", "150=F F"), 150, api.ErrName},
		{with("32=4", "32=0"), 32, api.ErrArg},
		{with("32=4", "32=x"), 32, api.ErrForm},
		{with("31=1000", "31=0"), 31, api.ErrArg},
		{with("150=F", "150=4"), 32, api.ErrSpare},
		{good + "19=e|", 19, api.ErrSpare},
		{with("150=F|32=4|31=1000|", "150=H|"), 19, api.ErrMissing},
		{"35=9|34=1|11=c1|17=e|", 17, api.ErrSpare},
		{"35=9|34=1|", 11, api.ErrMissing},
	} {
		x.want(x.rawOf("V", sealed(c.body)), c.e, reject(1, c.tag, c.e))
		x.want(x.rawOf("W", sealed(c.body)), c.e, reject(2, c.tag, c.e))
	}
	for _, kind := range []string{"0", "D", "F", "G", "3", "j", "88", "A"} {
		x.want(x.rawOf("V", sealed(with("35=8", "35="+kind))), api.ErrType, "1 35=j|371=35|380=120|")
		x.want(x.rawOf("W", sealed(with("35=8", "35="+kind))), api.ErrType, "2 35=j|371=35|380=120|")
	}
	for _, kind := range []string{"1", "2", "FF", "H5", "x", "9"} {
		x.want(x.rawOf("V", sealed(with("150=F", "150="+kind))), api.ErrType, other(1, 150, api.ErrType))
	}
	// Neither took a number.
	x.want(x.say("V", trades("c1", "e", 4, 1000)), api.OK, report(2, "p", 1, 4, 1000, 4, 96, 0))
}

// P29.5: the session's errors of Take, of each venue's own numbers; a number is taken by what is refused behind it, too.
func TestRepliesNumbers(t *testing.T) {
	x := working(t)
	as := func(seq int, r api.Reply) api.Reply {
		r.Seq = seq
		return r
	}
	for _, seq := range []int{2, 3, 1 << 32, mostTime} {
		x.want(x.sayAs("V", as(seq, acks("c1"))), api.ErrGap, "1 35=3|371=34|373=221|")
	}
	x.want(x.sayAs("V", as(1, acks("c1"))), api.OK)
	for _, r := range append(repliesOf("c1", "e"), busts("c1", "e", "f"), trades("c1", "e", 99, 9999)) {
		x.want(x.sayAs("V", as(1, r)), api.ErrSeq, "1 35=3|371=34|373=220|")
		x.want(x.sayAs("V", as(3, r)), api.ErrGap, reject(1, 34, api.ErrGap))
		x.want(x.sayAs("W", as(2, r)), api.ErrGap, reject(2, 34, api.ErrGap))
	}
	x.wantFaults(false, 0, 0)
	x.want(x.sayAs("V", as(2, acks("c2"))), api.ErrUnknown, reject(1, 11, api.ErrUnknown))
	x.want(x.sayAs("V", as(2, trades("c1", "e", 4, 1000))), api.ErrSeq, reject(1, 34, api.ErrSeq))
	x.want(x.sayAs("V", as(3, acks("c1"))), api.ErrState, reject(1, 11, api.ErrState))
	x.want(x.sayAs("W", as(1, acks("c1"))), api.ErrUnknown, reject(2, 11, api.ErrUnknown))
	x.want(x.sayAs("W", as(1, acks("c1"))), api.ErrSeq, reject(2, 34, api.ErrSeq))
	x.want(x.sayAs("V", as(4, trades("c1", "e", 4, 1000))), api.OK, report(2, "p", 1, 4, 1000, 4, 96, 0))
}

// P29.5: an order that was never made, of each kind of reply: no fault, even of a trade.
func TestNoSuchOrder(t *testing.T) {
	x := working(t)
	for _, id := range []string{"c2", "c0", "c01", "C1", "c", "c11", "1", "p", "x1", "e", "c-1"} {
		for _, r := range append(repliesOf(id, "e"), busts(id, "e", "e"), trades(id, "e", mostQty, mostPrice)) {
			x.want(x.say("V", r), api.ErrUnknown, reject(1, 11, api.ErrUnknown))
			x.want(x.say("W", r), api.ErrUnknown, reject(2, 11, api.ErrUnknown))
		}
	}
	x.wantFaults(false, 0, 0)
	// The executions were not seen by that.
	x.want(x.say("V", trades("c1", "e", 4, 1000)), api.OK, report(2, "p", 1, 4, 1000, 4, 96, 0))
	x.want(x.tick(), api.OK, newOut(1, 2, "c2", "X", api.Buy, 10, 1000))
	x.want(x.say("V", trades("c2", "f", 4, 1000)), api.OK, report(3, "p", 1, 4, 1000, 8, 92, 0))
}

// P29.5: an order of another venue is unknown to layer 28: no fault either; and nothing is seen.
func TestOrderOfAnotherVenue(t *testing.T) {
	x := working(t)
	for _, r := range append(repliesOf("c1", "e"), busts("c1", "e", "e")) {
		x.want(x.say("W", r), api.ErrUnknown, reject(2, 11, api.ErrUnknown))
	}
	x.wantFaults(false, 0, 0)
	x.want(x.say("V", trades("c1", "e", 4, 1000)), api.OK, report(2, "p", 1, 4, 1000, 4, 96, 0))
	// What V has executed W can't take back.
	x.want(x.say("W", busts("c1", "f", "e")), api.ErrUnknown, reject(2, 11, api.ErrUnknown))
	x.done(x.say("V", busts("c1", "f", "e")))
}

// P29.5: each venue's executions have names of their own.
func TestExecutionsByVenue(t *testing.T) {
	s := setup()
	s.Venues[0].Shown, s.Venues[1].Shown = 10, 10
	x := begun(t, s, iceberg("p"))
	x.want(x.tick(), api.OK, newOut(1, 1, "c1", "X", api.Buy, 10, 1000), newOut(2, 1, "c2", "X", api.Buy, 10, 1000))
	x.want(x.say("V", trades("c1", "e", 4, 1000)), api.OK, report(2, "p", 1, 4, 1000, 4, 96, 0))
	x.want(x.say("W", trades("c2", "e", 3, 990)), api.OK, report(3, "p", 1, 3, 990, 7, 93, 0))
	x.want(x.say("W", busts("c2", "f", "e")), api.OK, stands(4, "p", 1, 4, 93))
	x.want(x.say("V", busts("c1", "f", "e")), api.OK, stands(5, "p", 0, 0, 93))
	x.want(x.say("W", trades("c2", "e", 3, 990)), api.ErrTwice, reject(2, 11, api.ErrTwice))
}

// P29.5: ErrTwice of a trade and of a bust whose execution was seen, be it a trade or a bust, of whichever order: no fault.
func TestExecutionTwice(t *testing.T) {
	x := begun(t, setup(), order("p"), order("q"))
	x.ticks(1)
	x.done(x.say("V", trades("c1", "e", 4, 1000)), x.say("V", trades("c1", "f", 2, 995)), x.say("V", busts("c1", "g", "e")))
	for _, exec := range []string{"e", "f", "g"} {
		for _, r := range []api.Reply{
			trades("c1", exec, 4, 1000), trades("c1", exec, 1, 990), trades("c2", exec, 4, 1000),
			trades("c1", exec, 5, 1000), trades("c1", exec, 1, 1001), trades("c2", exec, 11, 2000),
			busts("c1", exec, "f"), busts("c1", exec, "e"), busts("c1", exec, "z"), busts("c2", exec, exec),
		} {
			x.want(x.say("V", r), api.ErrTwice, reject(1, 11, api.ErrTwice))
		}
		// Of other kinds of replies nobody asks whether it was seen, nor is it seen.
		x.want(x.say("V", says(api.ReplyReplaced, "c1", exec)), api.ErrState, reject(1, 11, api.ErrState))
	}
	x.done(x.say("V", says(api.ReplyNew, "c2", "e")), x.say("V", says(api.ReplyNew, "c1", "h")))
	x.want(x.say("V", trades("c2", "h", 4, 1000)), api.OK, report(6, "q", 1, 4, 1000, 4, 96, 0))
	x.wantFaults(false, 0, 0)
	// What was refused was not seen.
	x.want(x.say("V", busts("c1", "k", "z")), api.ErrUnknown, reject(1, 11, api.ErrUnknown))
	x.want(x.say("V", trades("c1", "k", 4, 1000)), api.OK, report(7, "p", 1, 4, 1000, 6, 90, 0))
}

// P29.5: ErrFull, as soon as Execs were seen at that venue: a fault of a trade, none of a bust; ErrTwice comes ahead of it; a bust counts, too.
func TestExecutionsFull(t *testing.T) {
	for _, room := range []int{1, 2, 3, 5} {
		s := setup()
		s.Execs, s.Repeat = room, 1024
		s.Venues[0].Shown, s.Venues[1].Shown = 10, 10
		x := begun(t, s, iceberg("p"))
		x.want(x.tick(), api.OK, newOut(1, 1, "c1", "X", api.Buy, 10, 1000), newOut(2, 1, "c2", "X", api.Buy, 10, 1000))
		for i := range room {
			if i == 2 {
				x.done(x.say("V", busts("c1", "e2", "e0")))
			} else {
				x.done(x.say("V", trades("c1", "e"+strconv.Itoa(i), 1, 1000)))
			}
		}
		x.want(x.say("V", busts("c1", "f", "e0")), api.ErrFull, reject(1, 11, api.ErrFull))
		x.want(x.say("V", busts("c1", "f", "nothing")), api.ErrFull, reject(1, 11, api.ErrFull))
		x.want(x.say("V", trades("c1", "e0", 1, 1000)), api.ErrTwice, reject(1, 11, api.ErrTwice))
		x.want(x.say("V", trades("c3", "f", 1, 1000)), api.ErrUnknown, reject(1, 11, api.ErrUnknown))
		x.wantFaults(false, 0, 0)
		// W has room of its own.
		x.done(x.say("W", trades("c2", "f", 1, 1000)))
		x.want(x.say("V", trades("c1", "f", 1, 1000)), api.ErrFull, reject(1, 11, api.ErrFull))
		x.wantFaults(true, 1, 0)
		// What needs no room goes on.
		x.done(x.say("V", says(api.ReplyCanceled, "c1", "f")))
	}
}

// P29.5: full comes ahead of all that layer 28 says, and is a fault even of another venue's order.
func TestFullComesFirst(t *testing.T) {
	s := setup()
	s.Execs = 1
	s.Venues[0].Shown, s.Venues[1].Shown = 10, 10
	for _, r := range []api.Reply{trades("c2", "f", 1, 1000), trades("c1", "f", 99, 1000), trades("c1", "f", 1, 1005)} {
		x := begun(t, s, iceberg("p"))
		x.done(x.tick(), x.say("V", trades("c1", "e", 1, 1000)))
		x.want(x.say("V", r), api.ErrFull, reject(1, 11, api.ErrFull))
		x.wantFaults(true, 1, 0)
	}
}

// P29.5: a trade in each of a parent's states: taken while its child is open, a fault of one that is done.
func TestTradeInEachState(t *testing.T) {
	eachStanding(t, func(x *pair, s standing) {
		n, p := x.m.reports, x.parent("p")
		switch {
		case len(p.Children) == 0:
			x.want(x.say("V", trades("c1", "f", 1, 990)), api.ErrUnknown, reject(1, 11, api.ErrUnknown))
			x.wantFaults(false, 0, 0)
		case s.state > api.PEnding:
			x.want(x.say("V", trades("c1", "f", 1, 990)), api.ErrState, reject(1, 11, api.ErrState))
			x.wantFaults(true, 1, 0)
			x.wantNet(1, 0, p.Filled)
		default:
			x.want(x.say("V", trades("c1", "f", 1, 990)), api.OK, report(n+1, "p", 1, 1, 990, p.Filled+1, 99-p.Filled, 0))
			x.wantState("p", s.state)
			x.wantNet(1, 0, p.Filled+1)
			x.wantFaults(false, 0, 0)
		}
	})
}

// P29.5: a trade's report, the position, and what the account uses behind it, on either side.
func TestTrade(t *testing.T) {
	x := begun(t, setup(), order("p"), sale("q"))
	x.ticks(1)
	x.want(x.say("V", trades("c1", "e1", 4, 995)), api.OK, report(3, "p", 1, 4, 995, 4, 96, 0))
	x.wantNet(1, 0, 4)
	x.want(x.say("V", trades("c2", "e2", 1, 1010)), api.OK, report(4, "q", 1, 1, 1010, 1, 99, 0))
	x.wantNet(1, 0, 3)
	x.want(x.say("V", trades("c1", "e3", 6, 1)), api.OK, report(5, "p", 1, 6, 1, 10, 90, 0))
	x.wantNet(1, 0, 9)
	x.wantBook(1, 201000, 0, 100000, 101000)
	if p := x.parent("p"); p.Worth != 3986 || p.Need != 93986 {
		t.Errorf("%+v", p)
	}
}

// P29.5: a trade that fills the parent settles it: what is left goes back to the account.
func TestTradeFills(t *testing.T) {
	a := iceberg("p")
	a.Side, a.Qty = api.Sell, 20
	x := begun(t, setup(), order("q"), a)
	x.want(x.tick(), api.OK, newOut(1, 1, "c1", "X", api.Buy, 10, 1000), newOut(1, 2, "c2", "X", api.Sell, 20, 1000))
	x.wantBook(1, 120200, 0, 100000, 20200)
	x.want(x.say("V", trades("c2", "e1", 19, 1000)), api.OK, report(3, "p", 1, 19, 1000, 19, 1, 0))
	x.want(x.say("V", trades("c2", "e2", 1, 1005)), api.OK, report(4, "p", 1, 1, 1005, 20, 0, 0), stands(5, "p", 2, 20, 0))
	x.wantState("p", api.PFilled)
	x.wantBook(1, 120005, 20005, 100000, 0)
	x.wantNet(1, 0, -20)
	x.want(x.tick(), api.OK, newOut(1, 3, "c3", "X", api.Buy, 10, 1000))
}

// P29.5: what more is filled than an order asks for, where it was amended to less: nothing leaves.
func TestTradeBeyondAnAmendment(t *testing.T) {
	x := begun(t, setup(), order("p"))
	x.ticks(3)
	x.done(x.ask(amendOf("p", 10, 1000, 10)))
	x.want(x.say("V", trades("c1", "e1", 10, 1000)), api.OK, report(3, "p", 1, 10, 1000, 10, 0, 0))
	x.want(x.say("V", trades("c2", "e2", 9, 995)), api.OK, report(4, "p", 1, 9, 995, 19, 0, 0))
	x.wantBook(1, 30000, 0, 30000)
	x.want(x.say("V", says(api.ReplyCanceled, "c3", "a")), api.OK)
	x.want(x.say("V", says(api.ReplyCanceled, "c2", "a")), api.OK, stands(5, "p", 2, 19, 0))
	x.wantBook(1, 18955, 18955, 0)
}

// P29.5: the faults of a trade: layer 28's ErrState, ErrBand and ErrBig; each kills, is told of just that venue, and of the child and the book nothing changes.
func TestFaults(t *testing.T) {
	for _, c := range []struct {
		id         string
		qty, price int
		e          api.Errno
	}{
		{"c1", 11, 1000, api.ErrBig},
		{"c1", mostQty, 1000, api.ErrBig},
		{"c1", 10, 1001, api.ErrBand},
		{"c1", 1, 1005, api.ErrBand},
		{"c1", 1, mostPrice, api.ErrBand},
		{"c1", 11, 1001, api.ErrBand},
		{"c2", 1, 995, api.ErrBand},
		{"c2", 1, 999, api.ErrBand},
		{"c2", 1, 1, api.ErrBand},
		{"c2", 1, 1011, api.ErrBand},
		{"c2", 11, 1010, api.ErrBig},
		{"c3", 1, 1000, api.ErrState},
		{"c3", 99, 2000, api.ErrState},
	} {
		x := begun(t, setup(), order("p"), sale("q"), order("r"))
		x.ticks(1)
		x.done(x.say("V", trades("c3", "e0", 10, 1000)))
		for i := range 3 {
			x.want(x.say("V", trades(c.id, "e", c.qty, c.price)), c.e, reject(1, 11, c.e))
			x.wantFaults(true, i+1, 0)
		}
		x.wantNet(1, 0, 10)
		x.want(x.tick(), api.OK, cancelOut(1, 4, "c1"), cancelOut(1, 5, "c2"))
		// Faults stay, whatever is resumed.
		x.done(x.resume())
		x.wantFaults(false, 3, 0)
		// The execution was not seen: it may come with what may be.
		x.done(x.say("V", trades("c1", "e", 10, 1000)))
	}
}

// P29.5: at the ends of what a trade may be there is no fault.
func TestNoFaults(t *testing.T) {
	for _, c := range []struct {
		id         string
		qty, price int
	}{{"c1", 10, 1000}, {"c1", 1, 1000}, {"c1", 10, 1}, {"c2", 10, 1000}, {"c2", 10, 1010}, {"c2", 1, 1001}} {
		x := begun(t, setup(), order("p"), sale("q"))
		x.ticks(1)
		x.done(x.say("V", trades(c.id, "e", c.qty, c.price)))
		x.wantFaults(false, 0, 0)
	}
}

// P29.5: the same kinds of errors of a reply that is no trade are none: the gateway isn't killed.
func TestErrorsWithoutFault(t *testing.T) {
	x := working(t)
	x.done(x.say("V", acks("c1")))
	for _, kind := range []int{api.ReplyNew, api.ReplyReplaced, api.ReplyRejected, api.ReplyRefused} {
		x.want(x.say("V", says(kind, "c1", "e")), api.ErrState, reject(1, 11, api.ErrState))
	}
	x.done(x.say("V", says(api.ReplyCanceled, "c1", "e")))
	for _, kind := range []int{api.ReplyNew, api.ReplyCanceled, api.ReplyReplaced, api.ReplyRejected, api.ReplyRefused} {
		x.want(x.say("V", says(kind, "c1", "e")), api.ErrState, reject(1, 11, api.ErrState))
	}
	x.wantFaults(false, 0, 0)
	x.done(x.kill())
	x.want(x.say("V", acks("c1")), api.ErrState, reject(1, 11, api.ErrState))
	x.wantFaults(true, 0, 0)
}

// P29.5: a fault while it is killed already, and of each venue its own.
func TestFaultsByVenue(t *testing.T) {
	s := setup()
	s.Venues[0].Shown, s.Venues[1].Shown = 10, 10
	x := begun(t, s, iceberg("p"))
	x.ticks(1)
	x.done(x.kill())
	x.want(x.say("W", trades("c2", "e", 11, 1000)), api.ErrBig, reject(2, 11, api.ErrBig))
	x.wantFaults(true, 0, 1)
	x.want(x.say("V", trades("c1", "e", 11, 1000)), api.ErrBig, reject(1, 11, api.ErrBig))
	x.want(x.say("W", trades("c2", "e", 11, 1000)), api.ErrBig, reject(2, 11, api.ErrBig))
	x.wantFaults(true, 1, 2)
	x.want(x.kill(), api.ErrState)
	// Replies of a venue that has a fault are taken still.
	x.done(x.say("W", trades("c2", "e", 10, 1000)), x.say("V", acks("c1")))
}

// P29.5: executions that are the same halt the parent at the Repeat-th one; the report of it has the status 1, and nothing new goes out till it is resumed.
func TestStreak(t *testing.T) {
	x := working(t)
	for i := range 3 {
		x.want(x.say("V", trades("c1", "e"+strconv.Itoa(i), 1, 1000)), api.OK, report(i+2, "p", 1, 1, 1000, i+1, 99-i, 0))
		x.wantState("p", api.PWorking)
	}
	x.want(x.say("V", trades("c1", "e3", 1, 1000)), api.OK, report(5, "p", 1, 1, 1000, 4, 96, 0))
	x.wantState("p", api.PHalted)
	x.want(x.tick(), api.OK)
	x.want(x.say("V", trades("c1", "e4", 1, 1000)), api.OK, report(6, "p", 1, 1, 1000, 5, 95, 0))
	x.want(x.ask(pauseOf("p")), api.ErrState, notDone("z", 9, api.ErrState))
	x.want(x.tick(), api.OK)
	x.want(x.ask(resumeOf("p")), api.OK, stands(7, "p", 1, 5, 95))
	x.want(x.tick(), api.OK, newOut(1, 2, "c2", "X", api.Buy, 30, 1000))
	x.want(x.say("V", trades("c1", "e5", 1, 1000)), api.OK, report(8, "p", 1, 1, 1000, 6, 94, 0))
	x.wantState("p", api.PWorking)
	// A streak that trips as the order is filled doesn't keep it from its end.
	a := iceberg("q")
	a.Qty, a.Show = 40, 40
	y := begun(t, setup(), a)
	y.ticks(1)
	for i := range 3 {
		y.done(y.say("V", trades("c1", "e"+strconv.Itoa(i), 10, 1000)))
	}
	y.want(y.say("V", trades("c1", "e3", 10, 1000)), api.OK, report(5, "q", 1, 10, 1000, 40, 0, 0), stands(6, "q", 2, 40, 0))
}

// P29.5: each other kind of reply does to the child what layer 28 says, and nothing goes out.
func TestOtherReplies(t *testing.T) {
	x := begun(t, setup(), order("p"))
	child := func(i, state, qty, price int) {
		t.Helper()
		if c := x.parent("p").Children[i]; c.State != state || c.Qty != qty || c.Price != price {
			t.Fatalf("%+v; asked for the state %d, %d at %d", c, state, qty, price)
		}
	}
	x.ticks(1)
	x.want(x.say("V", says(api.ReplyNew, "c1", "a")), api.OK)
	child(0, api.SNew, 10, 1000)
	x.done(x.ask(amendOf("p", 100, 995, 10)), x.tick())
	child(0, api.SReplacing, 10, 1000)
	x.want(x.say("V", says(api.ReplyRefused, "c1", "")), api.OK)
	child(0, api.SNew, 10, 1000)
	x.ticks(1)
	x.want(x.say("V", says(api.ReplyReplaced, "c1", "a")), api.OK)
	child(0, api.SNew, 10, 995)
	x.want(x.say("V", says(api.ReplyRejected, "c2", "a")), api.OK)
	child(1, api.SRejected, 10, 995)
	x.want(x.say("V", says(api.ReplyCanceled, "c1", "a")), api.OK)
	child(0, api.SCanceled, 10, 995)
	x.wantBook(1, 99550, 0, 99550)
}

// P29.5: each way in which a reply lets an ending parent be done: it is settled once, behind what else goes out.
func TestRepliesSettle(t *testing.T) {
	for _, kind := range []int{api.ReplyCanceled, api.ReplyRejected} {
		x := working(t)
		x.done(x.ask(cancelOf("p")), x.tick())
		x.want(x.say("V", says(kind, "c1", "a")), api.OK, stands(3, "p", 4, 0, 0))
		x.wantBook(1, 0, 0, 0)
		x.want(x.say("V", says(kind, "c1", "a")), api.ErrState, reject(1, 11, api.ErrState))
		x.want(x.tick(), api.OK)
	}
	x := working(t)
	x.done(x.ask(cancelOf("p")), x.tick())
	x.want(x.say("V", trades("c1", "e", 10, 1000)), api.OK, report(3, "p", 1, 10, 1000, 10, 0, 0), stands(4, "p", 4, 10, 0))
	x.wantBook(1, 10000, 10000, 0)
	// Replaced, or refused, where all was executed meanwhile.
	for _, kind := range []int{api.ReplyReplaced, api.ReplyRefused} {
		y := working(t)
		y.done(y.say("V", acks("c1")), y.ask(amendOf("p", 100, 995, 10)), y.tick(), y.ask(cancelOf("p")))
		y.done(y.say("V", says(api.ReplyRejected, "c2", "a")))
		y.want(y.say("V", trades("c1", "e", 10, 1000)), api.OK, report(4, "p", 1, 10, 1000, 10, 0, 0), stands(5, "p", 4, 10, 0))
		y.want(y.say("V", says(kind, "c1", "a")), api.ErrState, reject(1, 11, api.ErrState))
		y.wantBook(1, 10000, 10000, 0)
	}
}
