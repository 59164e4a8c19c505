package parent_test

import (
	"testing"

	"spigot/api"
)

// filled has c1 of 30 with 20 executed for 19950, and c2 of 10 with 10 executed for 10000.
func filled(t *testing.T, side int) *pair {
	t.Helper()
	x := newPair(t, order(side), symbolX(), setup(), 0)
	x.wantWork(at(3, 1), newMove(0, "c1", 30, 1000))
	x.wantWork(at(4, 2, w()), newMove(1, "c2", 10, 1000))
	if side == api.Buy {
		x.ok(x.reply(0, traded("c1", 10, 995)), x.reply(0, traded("c1", 10, 1000)), x.reply(1, traded("c2", 10, 1000)))
	} else {
		x.ok(x.reply(0, traded("c1", 10, 1000)), x.reply(0, traded("c1", 10, 1005)), x.reply(1, traded("c2", 10, 1000)))
	}
	return x
}

// P28.6: what is taken back is filled no more, but busted; the need falls by what it is worth.
func TestBust(t *testing.T) {
	x := filled(t, api.Buy)
	x.wantSums(30, 29950, 0, 10, 29950+70*1000)
	x.ok(x.bust(0, "c1", 10, 995))
	x.wantSums(20, 20000, 10, 10, 20000+70*1000)
	x.wantChild(0, api.SPartial, 20, 1000, 0, 0, 10, 10)
	x.ok(x.bust(1, "c2", 4, 1000))
	x.wantSums(16, 16000, 14, 10, 16000+70*1000)
	x.wantChild(1, api.SFilled, 6, 1000, 0, 0, 6, 0)
	x.ok(x.bust(0, "c1", 10, 1000))
	x.wantSums(6, 6000, 24, 10, 6000+70*1000)
	x.wantChild(0, api.SNew, 10, 1000, 0, 0, 0, 10)
	x.ok(x.bust(1, "c2", 6, 1000))
	x.wantSums(0, 0, 30, 10, 70*1000)
	x.wantState(api.PWorking)
	y := filled(t, api.Sell)
	y.ok(y.bust(0, "c1", 10, 1005))
	y.wantSums(20, 20000, 10, 10, 20000+70*1010)
}

// P28.6: a place and an ID that are none are ErrUnknown, whatever else is wrong.
func TestBustUnknown(t *testing.T) {
	x := buys(t)
	x.want(x.bust(0, "c1", 1, 1), api.ErrUnknown)
	x = filled(t, api.Buy)
	for _, c := range []struct {
		place int
		id    string
	}{{1, "c1"}, {0, "c2"}, {-1, "c1"}, {2, "c2"}, {leastInt, "c1"}, {greatestInt, "c1"}, {0, ""}, {0, "c3"}, {0, "c"}, {0, "c1 "}, {1, "C2"}} {
		for _, qty := range []int{leastInt, -1, 0, 1, 10, 31, greatestInt} {
			for _, price := range []int{leastInt, 0, 1, 1000, mostPrice + 1, greatestInt} {
				x.want(x.bust(c.place, c.id, qty, price), api.ErrUnknown)
			}
		}
	}
	x.wantSums(30, 29950, 0, 10, 29950+70*1000)
}

// P28.6: quantities and prices that may not be, each by itself and together.
func TestBustNotRight(t *testing.T) {
	for _, side := range []int{api.Buy, api.Sell} {
		x := filled(t, side)
		for _, place := range []int{0, 1} {
			id := []string{"c1", "c2"}[place]
			for _, qty := range []int{leastInt, leastInt + 1, -10, -1, 0, 31, 40, api.MaxQty, api.MaxQty + 1, greatestInt - 1, greatestInt} {
				for _, price := range []int{leastInt, -1, 0, 1, 2, 1000, mostPrice, mostPrice + 1, greatestInt} {
					x.want(x.bust(place, id, qty, price), api.ErrArg)
				}
			}
			for _, price := range []int{leastInt, leastInt + 1, -1000, -1, 0, mostPrice + 1, mostPrice + 2, 1 << 62, greatestInt - 1, greatestInt} {
				for _, qty := range []int{leastInt, -1, 0, 1, 2, 10, 20, 30, 31} {
					x.want(x.bust(place, id, qty, price), api.ErrArg)
				}
			}
		}
		if s := x.p.Status(); s.Filled != 30 || s.Busted != 0 {
			t.Fatalf("%+v", s)
		}
	}
}

// P28.6: quantity and price together: just what it was worth, and one above it.
func TestBustWorth(t *testing.T) {
	for _, c := range []struct {
		qty, price int
		want       api.Errno
	}{
		{1, 1, api.OK}, {1, 29950, api.OK}, {1, 29951, api.ErrArg}, {1, mostPrice, api.ErrArg},
		{2, 14975, api.OK}, {2, 14976, api.ErrArg}, {10, 2995, api.OK}, {10, 2996, api.ErrArg}, {20, 1497, api.OK}, {20, 1498, api.ErrArg}, {20, mostPrice, api.ErrArg}, {20, 1, api.OK},
	} {
		x := filled(t, api.Buy)
		x.want(x.bust(0, "c1", c.qty, c.price), c.want)
		if c.want == api.OK {
			x.wantSums(30-c.qty, 29950-c.qty*c.price, c.qty, 10, 29950-c.qty*c.price+70*1000)
		} else {
			x.wantSums(30, 29950, 0, 10, 29950+70*1000)
		}
	}
	// All of it is taken back for less: there is nothing more that was filled, though something is worth.
	x := buys(t).out(1, v()).all("c1")
	x.ok(x.bust(0, "c1", 10, 1))
	x.wantSums(0, 9990, 10, 0, 9990+90*1000)
	x.want(x.bust(0, "c1", 1, 1), api.ErrArg)
	// What has no room in 64 bits: 2^40 at 2^24, and such that what is left of it in 64 bits is small.
	u := wideSetup()
	a := order(api.Buy)
	a.Qty, a.Price = 1<<40, 1<<22
	y := newPair(t, a, u.Symbols[1], u, 0)
	y.wantWork(wideTick(5, 1), newMove(0, "c1", 1<<39, 1<<22))
	y.ok(y.reply(0, traded("c1", 1<<39, 1<<22)))
	for _, price := range []int{1<<22 + 1, 1<<24 - 1, 1 << 24, 1<<25 - 1, 1 << 25, 1<<25 + 1, 1 << 26, 3 << 25, mostPrice} {
		y.want(y.bust(0, "c1", 1<<39, price), api.ErrArg)
	}
	y.ok(y.bust(0, "c1", 1<<38, 1<<23))
	y.wantSums(1<<38, 0, 1<<38, 0, 1<<61)
	y.want(y.bust(0, "c1", 1, 1), api.ErrArg)
}

// P28.6: more than the child has is layer 21's ErrArg, of another child's too; just what it has may be.
func TestBustOfTheChild(t *testing.T) {
	x := filled(t, api.Buy)
	for _, qty := range []int{11, 12, 20, 30} {
		x.want(x.bust(1, "c2", qty, 1), api.ErrArg)
	}
	for _, qty := range []int{21, 22, 30} {
		x.want(x.bust(0, "c1", qty, 1), api.ErrArg)
	}
	x.ok(x.bust(0, "c1", 20, 1000))
	x.wantSums(10, 9950, 20, 10, 9950+70*1000)
	x.want(x.bust(0, "c1", 1, 1), api.ErrArg)
	x.want(x.bust(1, "c2", 11, 1), api.ErrArg)
	x.ok(x.bust(1, "c2", 10, 995))
	x.wantSums(0, 0, 30, 10, 70*1000)
}

// P28.6: of a child in each of its states, with 4 of it executed where that may be: of one that is rejected it is ErrState.
func TestBustInEachState(t *testing.T) {
	bring := func(k ...api.Reply) *pair {
		x := buys(t).out(1, v())
		x.ok(x.reply(0, traded("c1", 4, 1000)))
		x.wantWork(killed(1), cancelMove(0, "c1"))
		for _, r := range k {
			x.ok(x.reply(0, r))
		}
		return x
	}
	canceling := bring()
	canceling.ok(canceling.bust(0, "c1", 3, 1000))
	canceling.wantChild(0, api.SCanceling, 7, 1000, 0, 0, 1, 6)
	canceled := bring(says(api.ReplyCanceled, "c1"))
	canceled.ok(canceled.bust(0, "c1", 3, 1000))
	canceled.wantChild(0, api.SCanceled, 7, 1000, 0, 0, 1, 0)
	canceled.wantSums(1, 1000, 3, 0, 1000+96*1000)
	rejected := bring(says(api.ReplyRejected, "c1"))
	rejected.want(rejected.bust(0, "c1", 3, 1000), api.ErrState)
	rejected.want(rejected.bust(0, "c1", 5, 800), api.ErrArg)
	rejected.want(rejected.bust(0, "c1", 4, 1001), api.ErrArg)
	rejected.wantSums(4, 4000, 0, 0, 100000)
	filled := bring(traded("c1", 6, 1000))
	filled.ok(filled.bust(0, "c1", 7, 1000))
	filled.wantChild(0, api.SFilled, 3, 1000, 0, 0, 3, 0)
	replacing := buys(t).out(1, v())
	replacing.ok(replacing.reply(0, traded("c1", 4, 1000)), replacing.amend(100, 1005, 10, 1))
	replacing.wantWork(at(1, 2), replaceMove(0, "c1", 10, 1005))
	replacing.ok(replacing.bust(0, "c1", 3, 1000))
	replacing.wantChild(0, api.SReplacing, 7, 1000, 7, 1005, 1, 6)
	replacing.ok(replacing.reply(0, says(api.ReplyReplaced, "c1")))
	replacing.wantChild(0, api.SPartial, 7, 1005, 0, 0, 1, 6)
	for state, x := range childStates(t, api.Sell, v()) {
		if x.p.Status().Filled == 0 {
			x.want(x.bust(0, "c1", 1, 1), api.ErrArg)
			continue
		}
		x.ok(x.bust(0, "c1", 1, 1000))
		x.wantChild(0, state, 9, 1000, 0, 0, x.p.Status().Filled, x.p.Status().Claims)
	}
}

// P28.6: a bust while it is paused, halted or ending changes no state; nor does one behind the end.
func TestBustInEachStateOfTheParent(t *testing.T) {
	eachStanding(t, func(x *pair, s standing) {
		before := x.p.Status()
		switch {
		case len(before.Children) == 0:
			x.want(x.bust(0, "c1", 1, 1), api.ErrUnknown)
			return
		case before.Filled == 0:
			x.want(x.bust(0, "c1", 1, 1), api.ErrArg)
			return
		}
		x.ok(x.bust(0, "c1", 1, 1000))
		x.wantState(s.state)
		x.wantSums(before.Filled-1, before.Worth-1000, 1, before.Claims, before.Need-1000)
	})
}

// P28.6: what it comes to: filled, as long as nothing is busted before; canceled, if something was. What is busted is not sent again.
func TestBustAndTheEnd(t *testing.T) {
	x := buys(t)
	x.wantWork(at(9, 1), newMove(0, "c1", 90, 1000))
	x.ok(x.amend(90, 1000, 20, 9), x.reply(0, traded("c1", 90, 1000)))
	x.wantState(api.PFilled)
	x.ok(x.bust(0, "c1", 90, 1000))
	x.wantState(api.PFilled)
	x.wantSums(0, 0, 90, 0, 0)
	x.wantWork(at(19, 2))

	y := buys(t)
	y.wantWork(at(9, 1), newMove(0, "c1", 90, 1000))
	y.ok(y.amend(90, 1000, 20, 9), y.reply(0, traded("c1", 89, 1000)), y.bust(0, "c1", 89, 1000))
	y.wantState(api.PWorking)
	y.wantWork(at(19, 2))
	y.ok(y.reply(0, traded("c1", 1, 1000)))
	y.wantState(api.PCanceled)
	y.wantSums(1, 1000, 89, 0, 1000)

	z := buys(t)
	z.wantWork(at(9, 1), newMove(0, "c1", 90, 1000))
	z.ok(z.reply(0, traded("c1", 90, 1000)), z.bust(0, "c1", 50, 1000))
	// 40 are filled and 50 busted: at the tick 9 nothing is wanted, of 200 till 19 it is.
	z.wantWork(at(9, 2))
	z.ok(z.amend(200, 1000, 20, 9))
	z.wantWork(at(9, 2))
	z.wantWork(at(10, 2), newMove(0, "c2", 10, 1000))
	z.wantWork(at(19, 3), newMove(0, "c3", 90, 1000))
	z.wantSums(40, 40000, 50, 100, 150*1000)
}
