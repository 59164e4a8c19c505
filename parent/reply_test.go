package parent_test

import (
	"testing"

	"spigot/api"
)

// allKinds are right replies of each kind but ReplyBust, of a child.
func allKinds(id string) []api.Reply {
	var list []api.Reply
	for _, kind := range []int{api.ReplyNew, api.ReplyCanceled, api.ReplyReplaced, api.ReplyRejected, api.ReplyRefused} {
		list = append(list, says(kind, id))
	}
	return append(list, traded(id, 4, 1000))
}

// P28.5: each kind, with a child in each of its states: layer 21's error, or what it does.
func TestReplyInEachState(t *testing.T) {
	// By the child's state: what is behind each kind of allKinds; 0, if it may not happen. Of c1 of 10, which nothing of is executed but in SPartial (4) and SFilled.
	behind := map[int][6]int{
		api.SPending:   {api.SNew, api.SCanceled, 0, api.SRejected, 0, api.SPartial},
		api.SNew:       {0, api.SCanceled, 0, 0, 0, api.SPartial},
		api.SPartial:   {api.SPartial, api.SCanceled, 0, 0, 0, api.SPartial},
		api.SCanceling: {api.SCanceling, api.SCanceled, 0, api.SRejected, api.SNew, api.SCanceling},
		api.SReplacing: {0, api.SCanceled, api.SNew, 0, api.SNew, api.SReplacing},
		api.SFilled:    {},
		api.SCanceled:  {},
		api.SRejected:  {},
	}
	for _, side := range []int{api.Buy, api.Sell} {
		for i, r := range allKinds("c1") {
			for state, x := range childStates(t, side, v()) {
				want := behind[state][i]
				if want == 0 {
					x.want(x.reply(0, r), api.ErrState)
					continue
				}
				x.ok(x.reply(0, r))
				if c := x.p.Status().Children[0]; c.State != want {
					t.Errorf("%+v of a child in %d: %+v; asked for %d", r, state, c, want)
				}
				x.wantState(api.PWorking)
			}
		}
	}
}

// P28.5: a reply that isn't right, and a ReplyBust, is ErrArg, whatever child it names.
func TestReplyNotRight(t *testing.T) {
	for state, x := range childStates(t, api.Buy, v()) {
		for _, id := range []string{"c1", "c2", "", "a b"} {
			for _, place := range []int{leastInt, -1, 0, 1, greatestInt} {
				for _, r := range allKinds(id) {
					for _, wrong := range []func(r *api.Reply){
						func(r *api.Reply) { r.Kind = 0 },
						func(r *api.Reply) { r.Kind = -1 },
						func(r *api.Reply) { r.Kind = 8 },
						func(r *api.Reply) { r.Seq = 0 },
						func(r *api.Reply) { r.Seq = mostTime + 1 },
						func(r *api.Reply) { r.ID = "" },
						func(r *api.Reply) { r.Ref = "e" },
						func(r *api.Reply) { r.Exec += " " },
						func(r *api.Reply) { r.Qty = -1 },
						func(r *api.Reply) { r.Price = -1 },
						func(r *api.Reply) { r.Qty, r.Price = 4-r.Qty, 1000 },
						func(r *api.Reply) { r.Qty, r.Price = api.MaxQty+1, 1000 },
						func(r *api.Reply) { r.Qty, r.Price = 4, mostPrice+1 },
						func(r *api.Reply) { r.Qty, r.Price = 4, 1000-r.Price },
						func(r *api.Reply) { *r = api.Reply{} },
						func(r *api.Reply) { *r = api.Reply{Kind: api.ReplyBust, Seq: 1, ID: "c1", Exec: "f", Ref: "e"} },
					} {
						b := r
						wrong(&b)
						x.want(x.reply(place, b), api.ErrArg)
					}
				}
			}
		}
		if got := x.p.Status().Children[0].State; got != state {
			t.Errorf("the child is in %d, not in %d", got, state)
		}
	}
}

// P28.5: at another place than the child's, or with an ID that is none, it is ErrUnknown.
func TestReplyUnknown(t *testing.T) {
	x := buys(t)
	for _, r := range allKinds("c1") {
		x.want(x.reply(0, r), api.ErrUnknown)
	}
	x.wantWork(at(1, 1), newMove(0, "c1", 10, 1000))
	x.wantWork(at(2, 2, w()), newMove(1, "c2", 10, 1000))
	for _, c := range []struct {
		place int
		id    string
	}{{1, "c1"}, {0, "c2"}, {-1, "c1"}, {2, "c2"}, {leastInt, "c1"}, {greatestInt, "c2"}, {0, "c3"}, {0, "C1"}, {0, "c"}, {0, "c11"}, {0, "1"}, {1, "c1"}} {
		for _, r := range allKinds(c.id) {
			x.want(x.reply(c.place, r), api.ErrUnknown)
		}
		// Whatever is wrong with the price and the quantity.
		x.want(x.reply(c.place, traded(c.id, 999, mostPrice)), api.ErrUnknown)
	}
	x.ok(x.reply(0, says(api.ReplyNew, "c1")), x.reply(1, traded("c2", 4, 1000)))
	x.wantChild(0, api.SNew, 10, 1000, 0, 0, 0, 10)
	x.wantChild(1, api.SPartial, 10, 1000, 0, 0, 4, 6)
}

// P28.5: of a child that is done a trade is ErrState, whatever its price and its quantity are, and while or after the parent is open.
func TestTradeOfDone(t *testing.T) {
	for _, side := range []int{api.Buy, api.Sell} {
		for state, x := range childStates(t, side, v()) {
			if state < api.SFilled {
				continue
			}
			for range 2 {
				for _, price := range []int{1, 500, 985, 1000, 1010, 1015, mostPrice} {
					for _, qty := range []int{1, 10, 11, api.MaxQty} {
						x.want(x.reply(0, traded("c1", qty, price)), api.ErrState)
					}
				}
				x.end()
			}
			x.wantState(api.PCanceled)
		}
	}
}

// P28.5: at the child's limit, one better and one worse; at the band's upper end, and one above it.
func TestTradePrices(t *testing.T) {
	for _, c := range []struct {
		side, limit, price int
		want               api.Errno
	}{
		{api.Buy, 1000, 1000, api.OK}, {api.Buy, 1000, 999, api.OK}, {api.Buy, 1000, 1001, api.ErrBand}, {api.Buy, 1000, 1, api.OK}, {api.Buy, 1000, mostPrice, api.ErrBand},
		{api.Buy, 1000, 989, api.OK}, {api.Buy, 1010, 1010, api.OK}, {api.Buy, 1010, 1011, api.ErrBand}, {api.Buy, 990, 990, api.OK}, {api.Buy, 990, 991, api.ErrBand},
		{api.Sell, 1000, 1000, api.OK}, {api.Sell, 1000, 999, api.ErrBand}, {api.Sell, 1000, 1001, api.OK}, {api.Sell, 1000, 1, api.ErrBand}, {api.Sell, 1000, mostPrice, api.ErrBand},
		{api.Sell, 1000, 1009, api.OK}, {api.Sell, 1000, 1010, api.OK}, {api.Sell, 1000, 1011, api.ErrBand}, {api.Sell, 1010, 1010, api.OK}, {api.Sell, 1010, 1009, api.ErrBand}, {api.Sell, 1010, 1011, api.ErrBand},
	} {
		a := order(c.side)
		a.Price = c.limit
		x := newPair(t, a, symbolX(), setup(), 0).out(1, v())
		x.want(x.reply(0, traded("c1", 4, c.price)), c.want)
		if c.want == api.ErrBand {
			// ahead of a quantity that is above its claim
			x.want(x.reply(0, traded("c1", 11, c.price)), api.ErrBand)
			x.wantSums(0, 0, 0, 10, x.p.Need())
			continue
		}
		x.want(x.reply(0, traded("c1", 7, c.price)), api.ErrBig)
		x.wantSums(4, 4*c.price, 0, 6, x.p.Need())
	}
}

// P28.5: behind a replace that is on the way both prices may be; behind one that was taken its own, behind one that was refused the old one. An order that was amended, but whose child is not yet replaced, changes nothing.
func TestTradePricesBehindReplace(t *testing.T) {
	type prices struct {
		price int
		want  api.Errno
	}
	for _, c := range []struct {
		side, next, answer int
		prices             []prices
	}{
		{api.Buy, 1005, 0, []prices{{1006, api.ErrBand}, {1005, api.OK}, {1001, api.OK}, {1000, api.OK}, {1, api.OK}}},
		{api.Buy, 995, 0, []prices{{1001, api.ErrBand}, {1000, api.OK}, {996, api.OK}, {995, api.OK}}},
		{api.Buy, 1005, api.ReplyReplaced, []prices{{1006, api.ErrBand}, {1005, api.OK}}},
		{api.Buy, 995, api.ReplyReplaced, []prices{{996, api.ErrBand}, {1000, api.ErrBand}, {995, api.OK}}},
		{api.Buy, 1005, api.ReplyRefused, []prices{{1005, api.ErrBand}, {1001, api.ErrBand}, {1000, api.OK}}},
		{api.Buy, 995, api.ReplyRefused, []prices{{1001, api.ErrBand}, {1000, api.OK}}},
		{api.Sell, 1005, 0, []prices{{999, api.ErrBand}, {1000, api.OK}, {1004, api.OK}, {1010, api.OK}, {1011, api.ErrBand}}},
		{api.Sell, 995, 0, []prices{{994, api.ErrBand}, {995, api.OK}, {999, api.OK}, {1010, api.OK}, {1011, api.ErrBand}}},
		{api.Sell, 1005, api.ReplyReplaced, []prices{{1004, api.ErrBand}, {1000, api.ErrBand}, {1005, api.OK}}},
		{api.Sell, 995, api.ReplyReplaced, []prices{{994, api.ErrBand}, {995, api.OK}}},
		{api.Sell, 1005, api.ReplyRefused, []prices{{999, api.ErrBand}, {1000, api.OK}}},
		{api.Sell, 995, api.ReplyRefused, []prices{{999, api.ErrBand}, {995, api.ErrBand}, {1000, api.OK}}},
	} {
		x := newPair(t, order(c.side), symbolX(), setup(), 0).out(1, v())
		x.ok(x.reply(0, says(api.ReplyNew, "c1")), x.amend(100, c.next, 10, 1))
		if c.side == api.Buy {
			x.want(x.reply(0, traded("c1", 1, 1001)), api.ErrBand)
		} else {
			x.want(x.reply(0, traded("c1", 1, 999)), api.ErrBand)
		}
		x.wantWork(at(1, 50), replaceMove(0, "c1", 10, c.next))
		if c.answer != 0 {
			x.ok(x.reply(0, says(c.answer, "c1")))
		}
		// Another amendment is none of the child's.
		x.ok(x.amend(100, 990, 10, 1))
		for _, one := range c.prices {
			x.want(x.reply(0, traded("c1", 1, one.price)), one.want)
		}
	}
}

// P28.5: just of its claim it fills the child, one above it is ErrBig.
func TestTradeQuantities(t *testing.T) {
	for _, side := range []int{api.Buy, api.Sell} {
		for _, qty := range []int{11, 12, 100, api.MaxQty} {
			x := newPair(t, order(side), symbolX(), setup(), 0).out(2, v())
			x.want(x.reply(0, traded("c1", qty, 1000)), api.ErrBig)
			x.wantSums(0, 0, 0, 20, x.need)
			x.ok(x.reply(0, traded("c1", 1, 1000)))
			x.want(x.reply(0, traded("c1", 10, 1000)), api.ErrBig)
			x.ok(x.reply(0, traded("c1", 9, 1000)))
			x.wantChild(0, api.SFilled, 10, 1000, 0, 0, 10, 0)
			x.want(x.reply(0, traded("c1", 1, 1000)), api.ErrState)
			x.wantSums(10, 10000, 0, 10, x.need)
		}
		for state, x := range childStates(t, side, v()) {
			if state > api.SReplacing {
				continue
			}
			claim := x.p.Status().Children[0].Claim
			x.want(x.reply(0, traded("c1", claim+1, 1000)), api.ErrBig)
			x.ok(x.reply(0, traded("c1", claim, 1000)))
			x.wantChild(0, api.SFilled, 10, 1000, 0, 0, 10, 0)
			x.wantSums(10, 10000, 0, 0, x.need)
		}
	}
}

// P28.5: what was filled is worth, by what it was filled at; the need falls by what it was filled better.
func TestTradeWorth(t *testing.T) {
	x := buys(t).out(3, v())
	x.ok(x.reply(0, traded("c1", 10, 1000)))
	x.wantSums(10, 10000, 0, 20, 100000)
	x.ok(x.reply(0, traded("c2", 3, 990)))
	x.wantSums(13, 10000+2970, 0, 17, 100000-30)
	x.ok(x.reply(0, traded("c2", 7, 1)))
	x.wantSums(20, 10000+2970+7, 0, 10, 100000-30-7*999)
	x.ok(x.reply(0, says(api.ReplyCanceled, "c3")))
	x.wantSums(20, 10000+2970+7, 0, 0, 100000-30-7*999)
	y := sells(t).out(2, v())
	y.ok(y.reply(0, traded("c1", 10, 1000)))
	y.wantSums(10, 10000, 0, 10, 10000+90*1010)
	y.ok(y.reply(0, traded("c2", 10, 1010)))
	y.wantSums(20, 20100, 0, 0, 20100+80*1010)
}

// P28.5: the same executions, one behind the other, halt it: same in place, in quantity and in price.
func TestTradeHalts(t *testing.T) {
	type execution struct {
		place      int
		id         string
		qty, price int
	}
	one := execution{0, "c1", 2, 1000}
	for _, c := range []struct {
		list []execution
		at   int // behind how many it is halted; 0, if never
	}{
		{[]execution{one, one, one, one, one}, 4},
		{[]execution{one, one, one}, 0},
		// another child of the same place is the same
		{[]execution{one, {0, "c2", 2, 1000}, one, {0, "c2", 2, 1000}}, 4},
		{[]execution{one, one, one, {1, "c3", 2, 1000}, one, one, one}, 0},
		{[]execution{one, one, one, {0, "c1", 1, 1000}, one, one}, 0},
		{[]execution{one, one, one, {0, "c1", 2, 999}, one, one, one, {0, "c2", 2, 1000}}, 8},
		{[]execution{{1, "c3", 2, 1000}, one, one, one, one}, 5},
		{[]execution{{1, "c3", 2, 1000}, {1, "c3", 2, 1000}, {1, "c3", 2, 1000}, {1, "c3", 2, 1000}}, 4},
	} {
		x := buys(t)
		x.wantWork(at(3, 1), newMove(0, "c1", 30, 1000))
		x.wantWork(at(6, 2), newMove(0, "c2", 30, 1000))
		x.wantWork(at(9, 3, w()), newMove(1, "c3", 30, 1000))
		for i, one := range c.list {
			x.ok(x.reply(one.place, traded(one.id, one.qty, one.price)))
			// What isn't taken isn't noted; what is no trade isn't either.
			x.want(x.reply(1, traded("c3", 50, 1000)), api.ErrBig)
			x.want(x.reply(1, traded("c3", 1, 1011)), api.ErrBand)
			x.want(x.reply(0, says(api.ReplyReplaced, "c2")), api.ErrState)
			state := api.PWorking
			if c.at > 0 && i+1 >= c.at {
				state = api.PHalted
			}
			x.wantState(state)
		}
	}
}

// P28.5: a trade that trips the streak while it works, is paused, is ending: only what works is halted.
func TestTradeTripsInEachState(t *testing.T) {
	for _, c := range []struct {
		name  string
		bring func(x *pair) api.Errno
		state int
	}{
		{"working", func(x *pair) api.Errno { return api.OK }, api.PHalted},
		{"paused", func(x *pair) api.Errno { return x.pause() }, api.PPaused},
		{"ending", func(x *pair) api.Errno { return x.end() }, api.PEnding},
	} {
		x := buys(t).out(2, v())
		x.ok(x.reply(0, traded("c1", 2, 1000)), x.reply(0, traded("c1", 2, 1000)), x.reply(0, traded("c1", 2, 1000)), c.bring(x))
		x.ok(x.reply(0, traded("c1", 2, 1000)))
		x.wantState(c.state)
		x.ok(x.reply(0, traded("c1", 2, 1000)))
		x.wantState(c.state)
		// Another execution doesn't undo it.
		x.ok(x.reply(0, traded("c2", 1, 990)))
		x.wantState(c.state)
		if c.state != api.PEnding {
			x.ok(x.resume())
			x.ok(x.reply(0, traded("c2", 1, 990)))
			x.wantState(api.PWorking)
		}
	}
}

// P28.5: the trade that finishes it, in each of the states: filled, also where it trips the streak, or where it was ending.
func TestTradeFinishes(t *testing.T) {
	for _, busted := range []int{0, 1} {
		for _, c := range []struct {
			name  string
			bring func(x *pair) api.Errno
		}{
			{"working", func(x *pair) api.Errno { return api.OK }},
			{"paused", func(x *pair) api.Errno { return x.pause() }},
			{"ending", func(x *pair) api.Errno { return x.end() }},
			{"amended", func(x *pair) api.Errno { return x.amend(80, 1000, 10, 9) }},
			{"halted", func(x *pair) api.Errno {
				for range 4 {
					x.ok(x.reply(0, traded("c1", 1, 1000)))
				}
				x.wantState(api.PHalted)
				return api.OK
			}},
			{"tripped by it", func(x *pair) api.Errno {
				x.ok(x.amend(40, 1000, 10, 9))
				for range 3 {
					x.ok(x.reply(0, traded("c1", 10, 1000)))
				}
				return api.OK
			}},
		} {
			x := buys(t)
			x.wantWork(at(9, 1), newMove(0, "c1", 90, 1000))
			x.ok(x.amend(90, 1000, 10, 9))
			if busted > 0 {
				x.ok(x.reply(0, traded("c1", 1, 999)), x.bust(0, "c1", 1, 999))
			}
			x.ok(c.bring(x))
			s := x.p.Status()
			left := s.Claims
			if s.Qty == 40 {
				// The fourth of the same, and what is left besides.
				x.ok(x.reply(0, traded("c1", 10, 1000)))
				x.wantState(api.PHalted)
				left -= 10
			}
			x.ok(x.reply(0, traded("c1", left, 1000)))
			x.wantState([]int{api.PFilled, api.PCanceled}[busted])
			x.wantSums(90-busted, (90-busted)*1000, busted, 0, (90-busted)*1000)
			x.want(x.reply(0, traded("c1", 1, 1000)), api.ErrState)
		}
	}
	// The one that trips it is the one that finishes it.
	x := buys(t)
	x.wantWork(at(4, 1), newMove(0, "c1", 40, 1000))
	x.ok(x.amend(40, 1000, 10, 4))
	for range 4 {
		x.wantState(api.PWorking)
		x.ok(x.reply(0, traded("c1", 10, 1000)))
	}
	x.wantState(api.PFilled)
}

// P28.5 and 'finished': as long as a child is open it isn't, whatever is filled; and as long as something is wanted it isn't, unless it is ending.
func TestRepliesFinish(t *testing.T) {
	for _, kind := range []int{api.ReplyCanceled, api.ReplyRejected} {
		x := buys(t).out(2, v())
		x.ok(x.reply(0, says(kind, "c1")), x.reply(0, says(kind, "c2")))
		x.wantState(api.PWorking)
		x.wantSums(0, 0, 0, 0, 100000)

		y := buys(t).out(2, v())
		y.ok(y.end(), y.reply(0, says(kind, "c1")))
		y.wantState(api.PEnding)
		y.ok(y.reply(0, says(kind, "c2")))
		y.wantState(api.PCanceled)

		z := buys(t).out(2, v())
		z.ok(z.reply(0, traded("c1", 10, 1000)), z.amend(10, 1000, 10, 2))
		z.wantState(api.PWorking)
		z.ok(z.reply(0, says(kind, "c2")))
		z.wantState(api.PFilled)

		paused := buys(t).out(2, v())
		paused.ok(paused.reply(0, traded("c1", 10, 1000)), paused.bust(0, "c1", 10, 5), paused.amend(10, 1000, 10, 2), paused.pause(), paused.reply(0, says(kind, "c2")))
		paused.wantState(api.PCanceled)
		paused.wantSums(0, 9950, 10, 0, 9950)

		// Ending, with all that it wants filled besides: it is filled.
		full := buys(t).out(2, v())
		full.ok(full.reply(0, traded("c1", 10, 1000)), full.amend(10, 1000, 10, 2), full.end(), full.reply(0, says(kind, "c2")))
		full.wantState(api.PFilled)
	}
	// What is refused may be what finishes it, too: a replace of what is executed meanwhile can't be, but a cancel of it.
	x := buys(t).out(1, v())
	x.ok(x.end())
	x.wantWork(at(2, 2), cancelMove(0, "c1"))
	x.ok(x.reply(0, traded("c1", 4, 1000)), x.reply(0, says(api.ReplyRefused, "c1")))
	x.wantState(api.PEnding)
	x.wantWork(at(2, 2), cancelMove(0, "c1"))
	x.ok(x.reply(0, traded("c1", 6, 1000)))
	x.wantState(api.PCanceled)
	x.wantSums(10, 10000, 0, 0, 100000)
}
