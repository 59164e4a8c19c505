package gateway_test

import (
	"strconv"
	"testing"

	"spigot/api"
)

// executed has p, a purchase, and q, a sale, both of B, and the executions e1 and e2 of c1, and e3 of c2.
func executed(t *testing.T) *pair {
	t.Helper()
	x := begun(t, setup(), order("p"), sale("q"))
	x.ticks(1)
	x.done(x.say("V", trades("c1", "e1", 4, 995)), x.say("V", trades("c1", "e2", 3, 1000)), x.say("V", trades("c2", "e3", 5, 1005)))
	x.wantNet(1, 0, 2)
	x.wantBook(1, 201000, 0, 100000, 101000)
	return x
}

// P29.5: a bust's report has the parent's own status; the position and the reservation are less by it, of its own parent alone.
func TestBust(t *testing.T) {
	x := executed(t)
	x.want(x.say("V", busts("c1", "b1", "e1")), api.OK, "0 35=8|11=p|17=x6|39=1|32=0|31=0|14=3|151=93|103=0|")
	x.wantNet(1, 0, -2)
	x.wantBook(1, 201000-3980, 0, 100000-3980, 101000)
	x.want(x.say("V", busts("c2", "b2", "e3")), api.OK, stands(7, "q", 0, 0, 95))
	x.wantNet(1, 0, 3)
	x.wantBook(1, 201000-3980-5025, 0, 100000-3980, 101000-5025)
	x.want(x.say("V", busts("c1", "b3", "e2")), api.OK, stands(8, "p", 0, 0, 93))
	x.wantNet(1, 0, 0)
	x.wantBook(1, 201000-3980-5025-3000, 0, 100000-6980, 101000-5025)
	if p := x.parent("p"); p.Filled != 0 || p.Busted != 7 || p.Worth != 0 || p.Claims != 3 || p.State != api.PWorking {
		t.Errorf("%+v", p)
	}
}

// P29.5: a Ref that was not seen, was another order's, or was itself a bust: unknown; one that is busted already: twice. None is a fault, and none is seen.
func TestBustRefused(t *testing.T) {
	x := executed(t)
	x.done(x.say("V", busts("c1", "b1", "e1")))
	for _, c := range []struct {
		id, ref string
		e       api.Errno
	}{
		{"c1", "e9", api.ErrUnknown},
		{"c1", "b9", api.ErrUnknown},
		{"c1", "E1", api.ErrUnknown},
		{"c1", "c1", api.ErrUnknown},
		{"c1", "e3", api.ErrUnknown},
		{"c2", "e1", api.ErrUnknown},
		{"c2", "e2", api.ErrUnknown},
		{"c1", "b1", api.ErrUnknown},
		{"c2", "b1", api.ErrUnknown},
		{"c1", "e1", api.ErrTwice},
		{"c3", "e1", api.ErrUnknown},
	} {
		x.want(x.say("V", busts(c.id, "b9", c.ref)), c.e, reject(1, 11, c.e))
	}
	x.wantFaults(false, 0, 0)
	x.want(x.say("V", busts("c1", "b9", "e2")), api.OK, stands(7, "p", 0, 0, 93))
	x.want(x.say("V", busts("c1", "b8", "b9")), api.ErrUnknown, reject(1, 11, api.ErrUnknown))
}

// P29.5: a bust in each of a parent's states, its own status behind it; of one that is settled the book's Undo.
func TestBustInEachState(t *testing.T) {
	eachStanding(t, func(x *pair, s standing) {
		n, p, v := x.m.reports, x.parent("p"), x.g.View()
		if p.Filled == 0 {
			x.want(x.say("V", busts("c1", "b", "e1")), api.ErrUnknown, reject(1, 11, api.ErrUnknown))
			return
		}
		ref, first := "e1", p.Filled
		if s.state == api.PHalted {
			first = 1
		}
		leaves := 100 - p.Filled
		if s.state > api.PEnding {
			leaves = 0
		}
		status := s.status
		if s.state == api.PWorking {
			status = 0
		}
		x.want(x.say("V", busts("c1", "b", ref)), api.OK, stands(n+1, "p", status, p.Filled-first, leaves))
		x.wantState("p", s.state)
		x.wantNet(1, 0, p.Filled-first)
		if s.state > api.PEnding {
			x.wantBook(1, v.Used[1]-first*1000, v.Realised[1]-first*1000, 0)
			x.wantBook(1, 0, 0, 0)
		} else {
			x.wantBook(1, 100000-first*1000, 0, 100000-first*1000)
		}
		x.want(x.say("V", busts("c1", "b2", ref)), api.ErrTwice, reject(1, 11, api.ErrTwice))
	})
}

// P29.5: of parents that are settled each bust takes back what its execution was worth, of its own account; others' realised stays.
func TestBustOfSettled(t *testing.T) {
	a, b := iceberg("p"), iceberg("q")
	a.Qty, a.Show, b.Qty, b.Show, b.Account, b.Side = 20, 20, 30, 30, "A", api.Sell
	x := begun(t, setup(), a, b, order("r"))
	x.want(x.tick(), api.OK, newOut(1, 1, "c1", "X", api.Buy, 20, 1000), newOut(1, 2, "c2", "X", api.Sell, 30, 1000), newOut(1, 3, "c3", "X", api.Buy, 10, 1000))
	x.done(x.say("V", trades("c1", "e1", 8, 1000)), x.say("V", trades("c1", "e2", 12, 990)))
	x.done(x.say("V", trades("c2", "e3", 13, 1000)), x.say("V", trades("c2", "e4", 17, 1010)), x.say("V", trades("c3", "e5", 6, 1000)))
	x.wantBook(1, 119880, 19880, 0, 0, 100000)
	x.wantBook(0, 30170, 30170, 0, 0, 100000)
	x.want(x.say("V", busts("c1", "b1", "e2")), api.OK, stands(11, "p", 2, 8, 0))
	x.wantBook(1, 108000, 8000, 0, 0, 100000)
	x.wantBook(0, 30170, 30170, 0, 0, 100000)
	x.want(x.say("V", busts("c2", "b2", "e4")), api.OK, stands(12, "q", 2, 13, 0))
	x.wantBook(1, 108000, 8000, 0, 0, 100000)
	x.wantBook(0, 13000, 13000, 0, 0, 100000)
	x.want(x.say("V", busts("c3", "b3", "e5")), api.OK, stands(13, "r", 0, 0, 94))
	x.wantBook(1, 102000, 8000, 0, 0, 94000)
	x.want(x.say("V", busts("c1", "b4", "e1")), api.OK, stands(14, "p", 2, 0, 0))
	x.wantBook(1, 94000, 0, 0, 0, 94000)
	x.wantNet(1, 0, 0)
	x.wantNet(0, 0, -13)
	// What was given back may be reserved anew.
	x.want(x.tick(), api.OK, newOut(1, 4, "c4", "X", api.Buy, 10, 1000))
}

// P29.5: a bust of a child that is done, its parent being open: the slot holds less.
func TestBustOfDoneChild(t *testing.T) {
	x := working(t)
	x.done(x.say("V", trades("c1", "e1", 10, 1000)))
	x.want(x.say("V", busts("c1", "b1", "e1")), api.OK, stands(3, "p", 0, 0, 90))
	x.wantBook(1, 90000, 0, 90000)
	x.want(x.tick(), api.OK, newOut(1, 2, "c2", "X", api.Buy, 10, 1000))
	x.done(x.say("V", trades("c2", "e2", 4, 1000)), x.say("V", says(api.ReplyCanceled, "c2", "a")))
	x.want(x.say("V", busts("c2", "b2", "e2")), api.OK, stands(5, "p", 0, 0, 86))
	x.wantBook(1, 86000, 0, 86000)
}

// P29.5: a bust that layer 28 refuses, of a child that was rejected behind an execution: no fault, and the execution may not be busted later either.
func TestBustOfRejected(t *testing.T) {
	x := working(t)
	x.done(x.say("V", trades("c1", "e1", 4, 1000)), x.kill(), x.tick(), x.resume(), x.say("V", says(api.ReplyRejected, "c1", "a")))
	for range 2 {
		x.want(x.say("V", busts("c1", "b1", "e1")), api.ErrState, reject(1, 11, api.ErrState))
	}
	x.wantFaults(false, 0, 0)
	x.wantNet(1, 0, 4)
	x.wantBook(1, 100000, 0, 100000)
	// Neither the bust nor anything else was seen by that.
	x.done(x.tick(), x.say("V", trades("c2", "b1", 1, 1000)))
}

// P29.5: what is busted isn't traded again: it counts on, so that a parent can come to its end by it, canceled.
func TestBustedCounts(t *testing.T) {
	a := iceberg("p")
	a.Qty, a.Show = 20, 20
	x := begun(t, setup(), a)
	x.ticks(1)
	x.done(x.say("V", trades("c1", "e1", 12, 1000)))
	x.want(x.say("V", busts("c1", "b1", "e1")), api.OK, stands(3, "p", 0, 0, 8))
	x.wantBook(1, 8000, 0, 8000)
	x.want(x.say("V", trades("c1", "e2", 8, 995)), api.OK, report(4, "p", 1, 8, 995, 8, 0, 0), stands(5, "p", 4, 8, 0))
	x.wantState("p", api.PCanceled)
	x.wantBook(1, 7960, 7960, 0)
}

// P29.5: Undo gives an account room for new orders, no more than was realised.
func TestBustMakesRoom(t *testing.T) {
	s := setup()
	s.Accounts[1].Limit = 100000
	a := iceberg("p")
	a.Qty, a.Show = 20, 20
	x := begun(t, s, a)
	x.done(x.tick(), x.say("V", trades("c1", "e1", 20, 1000)))
	x.want(x.ask(order("q")), api.ErrLimit, notTaken(4, "q", api.ErrLimit))
	x.done(x.say("V", busts("c1", "b1", "e1")))
	x.want(x.ask(order("q")), api.OK, stands(6, "q", 0, 0, 100))
	x.wantBook(1, 100000, 0, 0, 100000)
}

// P29.5: executions of the greatest worth that are busted again and again leave positions as they were: no sum of them runs full.
func TestBustOfGreatWorth(t *testing.T) {
	s := setup()
	s.Accounts[1].Limit, s.Parents = mostLimit, 10
	s.Symbols[1] = api.Symbol{Name: "Y", Lot: 1, Tick: 1, Middle: 1 << 30, Most: mostQty, Worth: mostLimit}
	s.Venues = s.Venues[:1]
	s.Venues[0].Lot = 1
	for _, side := range []int{api.Buy, api.Sell} {
		x := newPair(t, s)
		for i := range 10 {
			n := strconv.Itoa(i + 1)
			a := api.Ask{Kind: api.AskNew, ID: "p" + n, Account: "B", Symbol: "Y", Side: side, Qty: 1 << 32, Price: 1 << 30, Algo: api.Berg, Show: 1 << 32, End: 1000}
			x.done(x.ask(a), x.tick(), x.say("V", trades("c"+n, "e"+n, 1<<32, 1<<30)))
			x.wantNet(1, 1, (3-2*side)<<32)
			x.done(x.say("V", busts("c"+n, "b"+n, "e"+n)))
			x.wantNet(1, 1, 0)
		}
	}
}
