package parent_test

import (
	"testing"

	"spigot/api"
)

// refuse asks for an error of Would and of Amend.
func (x *pair) refuse(qty, price, end, now int, want api.Errno) {
	x.t.Helper()
	_, e := x.would(qty, price, end, now)
	x.want(e, want)
	x.want(x.amend(qty, price, end, now), want)
}

// wantWould asks for the need that Would tells, and nothing of it is made so.
func (x *pair) wantWould(qty, price, end, now, want int) {
	x.t.Helper()
	if need, e := x.would(qty, price, end, now); need != want || e != api.OK {
		x.t.Fatalf("Would(%d, %d, %d, %d): %d, %d; asked for %d, of %+v", qty, price, end, now, need, e, want, x.p.Status())
	}
}

// P28.3: in each of the states.
func TestAmendInEachState(t *testing.T) {
	eachStanding(t, func(x *pair, s standing) {
		if s.state > api.PHalted {
			x.refuse(200, 1005, 20, 1, api.ErrState)
			// Whatever else is wrong.
			x.refuse(15, 1003, -1, greatestInt, api.ErrState)
			return
		}
		x.ok(x.amend(200, 1005, 20, 1))
		x.wantState(s.state)
		if a := x.p.Status(); a.Qty != 200 || a.Price != 1005 || a.End != 20 || a.Most != 200 {
			t.Errorf("%+v", a)
		}
	})
}

// P28.3: with just what it has it is ErrState, whatever the tick; with one of the three another it isn't.
func TestAmendToTheSame(t *testing.T) {
	eachStanding(t, func(x *pair, s standing) {
		a := x.p.Status()
		for _, now := range []int{leastInt, -1, 0, 1, 9, 10, 11, greatestInt} {
			x.refuse(a.Qty, a.Price, a.End, now, api.ErrState)
		}
		if s.state > api.PHalted {
			return
		}
		x.ok(x.amend(110, 1000, 10, 1))
		x.refuse(110, 1000, 10, 1, api.ErrState)
		x.ok(x.amend(110, 995, 10, 1))
		x.refuse(110, 995, 10, 1, api.ErrState)
		x.ok(x.amend(110, 995, 11, 1))
		x.refuse(110, 995, 11, 1, api.ErrState)
		x.ok(x.amend(100, 1000, 10, 1))
	})
}

// P28.3: each of Check's errors, ahead of those that are named behind it.
func TestAmendChecks(t *testing.T) {
	for _, side := range []int{api.Buy, api.Sell} {
		for _, c := range []struct {
			qty, price int
			want       api.Errno
		}{
			{-10, 1000, api.ErrLot}, {0, 1000, api.ErrLot}, {1, 1000, api.ErrLot}, {15, 1003, api.ErrLot}, {leastInt, 0, api.ErrLot}, {greatestInt, 1000, api.ErrLot},
			{1010, 1000, api.ErrQty}, {1010, 0, api.ErrQty}, {1 << 40 * 10, 1015, api.ErrQty},
			{100, 0, api.ErrTick}, {100, -5, api.ErrTick}, {100, 1003, api.ErrTick}, {100, leastInt, api.ErrTick}, {100, greatestInt, api.ErrTick},
			{100, 5, api.ErrBand}, {100, 985, api.ErrBand}, {100, 1015, api.ErrBand}, {1000, 1015, api.ErrBand},
			{1000, 1005, api.ErrNotional}, {1000, 1010, api.ErrNotional},
		} {
			x := newPair(t, order(side), symbolX(), setup(), 0)
			x.wantWork(at(3, 1), newMove(0, "c1", 30, 1000))
			x.ok(x.reply(0, traded("c1", 30, 1000)))
			x.refuse(c.qty, c.price, 20, 5, c.want)
			x.refuse(c.qty, c.price, 10, 5, c.want)
			// Ends that are ErrTime by themselves.
			x.refuse(c.qty, c.price, 5, 5, c.want)
			x.refuse(c.qty, c.price, mostTime+1, leastInt, c.want)
		}
	}
	// 1000 at 1000 are worth just what may be.
	x := buys(t)
	x.ok(x.amend(1000, 1000, 10, 0))
	x.wantSums(0, 0, 0, 0, 1000000)
	y := sells(t)
	y.refuse(1000, 1000, 10, 0, api.ErrNotional)
	y.ok(y.amend(990, 990, 10, 0))
	y.wantSums(0, 0, 0, 0, 990*1010)
}

// P28.3: what was filled and busted together: a quantity of just that, one lot below, and one above.
func TestAmendBelowWhatIsGone(t *testing.T) {
	for _, side := range []int{api.Buy, api.Sell} {
		for _, busted := range []int{0, 5, 10, 30} {
			x := newPair(t, order(side), symbolX(), setup(), 0)
			x.wantWork(at(5, 1), newMove(0, "c1", 50, 1000))
			x.ok(x.reply(0, traded("c1", 30, 1000)))
			if busted > 0 {
				x.ok(x.bust(0, "c1", busted, 1000))
			}
			x.refuse(20, 1000, 10, 5, api.ErrQty)
			x.refuse(10, 1000, 20, 5, api.ErrQty)
			x.refuse(20, 1005, 10, 5, api.ErrQty)
			// ahead of an end that may not be
			x.refuse(20, 1000, 5, 5, api.ErrQty)
			x.refuse(20, 1000, mostTime+1, 5, api.ErrQty)
			if s := x.p.Status(); s.Qty != 100 || s.Price != 1000 || s.End != 10 {
				t.Fatalf("%+v", s)
			}
			x.ok(x.amend(40, 1000, 10, 5), x.amend(30, 1000, 10, 5))
			x.wantState(api.PWorking)
			if s := x.p.Status(); s.Most != 100 {
				t.Fatalf("Most is %d", s.Most)
			}
		}
	}
	// Not on the lot: 31 are gone, so that 30 is too little and 40 is not.
	x := buys(t)
	x.wantWork(at(5, 1), newMove(0, "c1", 50, 1000))
	x.ok(x.reply(0, traded("c1", 31, 1000)))
	x.refuse(30, 1000, 10, 5, api.ErrQty)
	x.ok(x.amend(40, 1000, 10, 5))
}

// P28.3: nothing being out, a quantity of just what is gone finishes it.
func TestAmendFinishes(t *testing.T) {
	for _, c := range []struct{ busted, state int }{{0, api.PFilled}, {1, api.PCanceled}, {30, api.PCanceled}} {
		for _, stop := range []bool{false, true} {
			x := buys(t)
			x.wantWork(at(3, 1), newMove(0, "c1", 30, 1000))
			x.ok(x.reply(0, traded("c1", 30, 1000)))
			if c.busted > 0 {
				x.ok(x.bust(0, "c1", c.busted, 1000))
			}
			state := api.PWorking
			if stop {
				x.ok(x.pause())
				state = api.PPaused
			}
			x.wantWould(30, 1000, 10, 3, (30-c.busted)*1000)
			x.wantState(state)
			x.ok(x.amend(30, 1000, 10, 3))
			x.wantState(c.state)
		}
	}
	// With a child out it isn't finished.
	x := buys(t).out(4, v()).all("c1", "c2", "c3")
	x.ok(x.amend(30, 1000, 10, 4))
	x.wantState(api.PWorking)
	x.ok(x.reply(0, says(api.ReplyCanceled, "c4")))
	x.wantState(api.PFilled)
}

// P28.3: an end must be above the tick, at most MaxTime, and above Start by at most MaxSpan.
func TestAmendEnds(t *testing.T) {
	a := order(api.Buy)
	a.Start, a.End = 100, 200
	late := order(api.Buy)
	late.Start, late.End = mostTime-50, mostTime-10
	for _, c := range []struct {
		a        api.Ask
		end, now int
		want     api.Errno
	}{
		{a, 150, 149, api.OK}, {a, 150, 150, api.ErrTime}, {a, 150, 151, api.ErrTime}, {a, 201, 200, api.OK}, {a, 201, 201, api.ErrTime},
		{a, 150, leastInt, api.OK}, {a, 150, -1, api.OK}, {a, 150, 0, api.OK}, {a, 150, greatestInt, api.ErrTime}, {a, 150, greatestInt - 1, api.ErrTime},
		// about Start
		{a, 101, 0, api.OK}, {a, 100, 0, api.ErrTime}, {a, 99, 0, api.ErrTime}, {a, 101, 100, api.OK}, {a, 101, 101, api.ErrTime}, {a, 1, 0, api.ErrTime}, {a, 0, -1, api.ErrTime},
		{a, -1, -2, api.ErrTime}, {a, -1, leastInt, api.ErrTime}, {a, leastInt + 1, leastInt, api.ErrTime}, {a, leastInt, leastInt, api.ErrTime},
		// about Start and MaxSpan together
		{a, 100 + longest, 0, api.OK}, {a, 100 + longest - 1, 0, api.OK}, {a, 101 + longest, 0, api.ErrTime}, {a, 100 + longest, 99 + longest, api.OK}, {a, 100 + longest, 100 + longest, api.ErrTime},
		{a, mostTime, 0, api.ErrTime}, {a, greatestInt, 0, api.ErrTime}, {a, greatestInt, greatestInt - 1, api.ErrTime}, {a, greatestInt, leastInt, api.ErrTime},
		// about MaxTime
		{late, mostTime, 0, api.OK}, {late, mostTime, mostTime - 1, api.OK}, {late, mostTime, mostTime, api.ErrTime}, {late, mostTime + 1, 0, api.ErrTime}, {late, mostTime + 1, mostTime, api.ErrTime},
		{late, mostTime - 1, 0, api.OK}, {late, mostTime - 49, 0, api.OK}, {late, mostTime - 50, 0, api.ErrTime},
	} {
		x := newPair(t, c.a, symbolX(), setup(), 0)
		_, e := x.would(100, 1000, c.end, c.now)
		x.want(e, c.want)
		x.want(x.amend(100, 1000, c.end, c.now), c.want)
		if s := x.p.Status(); c.want == api.OK && s.End != c.end || c.want != api.OK && s.End != c.a.End {
			t.Fatalf("the end is %d behind %+v", s.End, c)
		}
		y := newPair(t, c.a, symbolX(), setup(), 0)
		y.want(y.amend(200, 1010, c.end, c.now), c.want)
	}
}

// wideSetup has a symbol whose band is from 858994 to a bit below 2^34, of which an order may be worth MaxLimit.
func wideSetup() api.Setup {
	u := setup()
	u.Symbols[1] = api.Symbol{Name: "X", Lot: 1, Tick: 1, Middle: 1 << 33, Width: 9999, Most: 1 << 40, Worth: 1 << 62}
	for i := range u.Venues {
		u.Venues[i].Lot, u.Venues[i].Shown = 1, api.MaxQty
	}
	return u
}

// wideTick is a tick at which V shows all there can be.
func wideTick(now, first int) tick {
	o := v()
	o.Lot, o.Shown = 1, api.MaxQty
	return at(now, first, o)
}

// P28.3: a need of just MaxLimit may be, one above it is ErrNotional.
func TestAmendNeedAtTheLimit(t *testing.T) {
	for _, c := range []struct {
		price int // of the one that is filled
		want  api.Errno
	}{{1<<23 - 1, api.OK}, {1 << 23, api.OK}, {1<<23 + 1, api.ErrNotional}} {
		u := wideSetup()
		a := order(api.Buy)
		a.Qty, a.Price = 2, c.price
		// 1 is filled at the price; 2^40 - 2 more at 2^22 are worth 2^62 - 2^23.
		x := newPair(t, a, u.Symbols[1], u, 0)
		x.wantWork(wideTick(5, 1), newMove(0, "c1", 1, c.price))
		x.ok(x.reply(0, traded("c1", 1, c.price)))
		need, e := x.would(1<<40-1, 1<<22, 10, 5)
		x.want(e, c.want)
		if want := 1<<62 - 1<<23 + c.price; c.want == api.OK && need != want {
			t.Fatalf("the need %d; asked for %d", need, want)
		}
		x.want(x.amend(1<<40-1, 1<<22, 10, 5), c.want)
		// ahead of it: an end that may not be
		if c.want != api.OK {
			x.refuse(1<<40-1, 1<<22, 5, 5, api.ErrTime)
		}
	}
}

// P28.3: a need that leaves 64 bits is above MaxLimit, wherever on its way it does.
func TestAmendNeedBeyondIt(t *testing.T) {
	u := wideSetup()
	a := order(api.Buy)
	a.Qty, a.Price = 1<<40, 1<<22
	bring := func(parts ...int) *pair {
		x := newPair(t, a, u.Symbols[1], u, 0)
		for i, now := range parts {
			if m := x.work(wideTick(now, i+1)); len(m) != 1 {
				t.Fatalf("%v", m)
			}
		}
		return x
	}
	// One child of 2^39 claims it all, whatever the quantity becomes.
	x := bring(5)
	x.wantSums(0, 0, 0, 1<<39, 1<<62)
	x.wantWould(1, 1<<23, 10, 5, 1<<62)
	x.refuse(1, 1<<23+1, 10, 5, api.ErrNotional)
	x.refuse(1, 1<<24-1, 10, 5, api.ErrNotional)
	x.refuse(1, 1<<24, 10, 5, api.ErrNotional)
	x.refuse(1, 1<<33, 10, 5, api.ErrNotional)
	x.refuse(1<<29, 1<<33, 10, 5, api.ErrNotional)
	// Two of about 2^38 and 2^39, each of which has room, and both have not.
	y := bring(3, 7)
	y.refuse(1, 1<<23+1<<22, 10, 7, api.ErrNotional)
	y.refuse(1, 1<<24, 10, 7, api.ErrNotional)
	y.refuse(1, 1<<33, 10, 7, api.ErrNotional)
	y.wantWould(1, 1<<22, 10, 7, (1<<40*7/10)*(1<<22))
	// A child at an earlier, greater price, and as much as may be beside it.
	b := a
	b.Qty, b.Price = 1<<30, 1<<32
	z := newPair(t, b, u.Symbols[1], u, 0)
	z.wantWork(wideTick(9, 1), newMove(0, "c1", 1<<30*9/10, 1<<32))
	z.refuse(1<<40, 1<<22, 10, 9, api.ErrNotional)
	// Of what is filled: nearly 2^62 of it, and nearly 2^62 beside it, have room; one more 2^62 has not.
	z.ok(z.reply(0, traded("c1", 1<<30*9/10, 1<<32)))
	z.refuse(1<<40, 1<<22, 10, 9, api.ErrNotional)
	c := order(api.Sell)
	c.Qty, c.Price = 1<<28, 1<<33
	s := newPair(t, c, u.Symbols[1], u, 0)
	high := s.p.Need() / (1 << 28)
	s.wantWould(1<<62/high, 1<<33, 10, 5, (1<<62)/high*high)
	s.refuse(1<<62/high+1, 1<<33, 10, 5, api.ErrNotional)
}

// P28.3 and the words: the need, with children at lower and at greater prices, amended up and down.
func TestWouldNeed(t *testing.T) {
	x := buys(t).out(3, v())
	x.wantSums(0, 0, 0, 30, 100000)
	// 30 are claimed; 1005 is greater than their 1000, 995 is not.
	x.wantWould(100, 1005, 10, 3, 100*1005)
	x.wantWould(100, 995, 10, 3, 30*1000+70*995)
	x.wantWould(30, 995, 10, 3, 30*1000)
	x.wantWould(10, 995, 10, 3, 30*1000)
	x.wantWould(10, 1010, 10, 3, 30*1010)
	x.wantWould(200, 1000, 11, 3, 200*1000)
	x.wantWould(100, 1000, 11, 3, 100*1000)
	x.ok(x.reply(0, traded("c1", 4, 990)))
	x.wantSums(4, 4*990, 0, 26, 4*990+96*1000)
	x.wantWould(100, 995, 10, 3, 4*990+26*1000+70*995)
	x.wantWould(20, 1005, 10, 3, 4*990+26*1005)
	x.ok(x.bust(0, "c1", 3, 990))
	x.wantSums(1, 990, 3, 26, 990+96*1000)
	x.wantWould(100, 995, 10, 3, 990+26*1000+70*995)
	x.wantWould(30, 995, 10, 3, 990+26*1000)
	x.wantWould(40, 995, 10, 3, 990+26*1000+10*995)
	// While a replace is on the way the greater price counts.
	x.ok(x.reply(0, says(api.ReplyNew, "c2")), x.amend(100, 1005, 10, 3))
	x.wantSums(1, 990, 3, 26, 990+96*1005)
	x.wantWork(at(3, 100), replaceMove(0, "c1", 7, 1005), replaceMove(0, "c2", 10, 1005))
	x.wantWould(100, 990, 10, 3, 990+16*1005+10*1000+70*990)
	x.ok(x.reply(0, says(api.ReplyRefused, "c2")))
	x.wantWould(100, 990, 10, 3, 990+6*1005+20*1000+70*990)
	x.ok(x.reply(0, says(api.ReplyReplaced, "c1")))
	x.wantWould(100, 990, 10, 3, 990+6*1005+20*1000+70*990)

	// For Sell it is the band's upper end, whatever the prices are.
	y := sells(t).out(3, v())
	y.wantSums(0, 0, 0, 30, 101000)
	y.wantWould(100, 990, 10, 3, 101000)
	y.wantWould(100, 1010, 10, 3, 101000)
	y.wantWould(10, 990, 10, 3, 30*1010)
	y.ok(y.reply(0, traded("c1", 4, 1000)))
	y.wantSums(4, 4000, 0, 26, 4000+96*1010)
	y.wantWould(50, 1000, 10, 3, 4000+46*1010)
}

// P28.3: several errors at once: the first one is told.
func TestAmendFirstError(t *testing.T) {
	x := buys(t)
	x.wantWork(at(5, 1), newMove(0, "c1", 50, 1000))
	x.ok(x.reply(0, traded("c1", 30, 1000)))
	x.refuse(100, 1000, 10, 50, api.ErrState)
	x.refuse(15, 1003, 5, 5, api.ErrLot)
	x.refuse(1010, 1003, 5, 5, api.ErrQty)
	x.refuse(20, 1003, 5, 5, api.ErrTick)
	x.refuse(20, 1015, 5, 5, api.ErrBand)
	x.refuse(1000, 1005, 5, 5, api.ErrNotional)
	x.refuse(20, 1005, 5, 5, api.ErrQty)
	x.refuse(40, 1005, 5, 5, api.ErrTime)
	x.ok(x.end())
	x.refuse(15, 1003, 5, 5, api.ErrState)
}

// P28.3 and 'Most': the greatest quantity that it ever had.
func TestMost(t *testing.T) {
	x := buys(t)
	for _, c := range []struct{ qty, most int }{{90, 100}, {110, 110}, {100, 110}, {500, 500}, {10, 500}, {490, 500}, {510, 510}} {
		x.ok(x.amend(c.qty, 1000, 10, 0))
		if s := x.p.Status(); s.Most != c.most || s.Qty != c.qty {
			t.Fatalf("%+v; asked for the most %d", s, c.most)
		}
	}
	x.refuse(1010, 1000, 10, 0, api.ErrQty)
	x.refuse(600, 1000, 10, 10, api.ErrTime)
	if s := x.p.Status(); s.Most != 510 {
		t.Fatalf("%+v", s)
	}
}

// P28.3: the order as it was amended is what it works by.
func TestWorksAsAmended(t *testing.T) {
	x := buys(t)
	x.ok(x.amend(200, 1005, 20, 0))
	x.wantWork(at(1, 1), newMove(0, "c1", 10, 1005))
	x.ok(x.amend(400, 1010, 20, 1), x.reply(0, says(api.ReplyNew, "c1")))
	x.wantWork(at(2, 2), replaceMove(0, "c1", 10, 1010), newMove(0, "c2", 30, 1010))
	x.ok(x.amend(400, 1010, 5, 2))
	x.wantWork(at(4, 3), newMove(0, "c3", 280, 1010))
	x.wantWork(at(5, 4), cancelMove(0, "c2"), cancelMove(0, "c3"))
	x.wantState(api.PEnding)
}
