package parent_test

import (
	"slices"
	"strconv"
	"testing"

	"spigot/api"
	"spigot/router"
)

// P28.4: of a tick that isn't from 0 to MaxTime nothing happens, though its end would have come.
func TestWorkOfNoTick(t *testing.T) {
	eachStanding(t, func(x *pair, s standing) {
		for _, now := range []int{leastInt, leastInt + 1, -2, -1, mostTime + 1, mostTime + 2, greatestInt - 1, greatestInt} {
			x.wantWork(at(now, 50))
			x.wantWork(killed(now))
			x.wantState(s.state)
		}
	})
}

// P28.4, its first step: from just its end on it ends, whether it works, is paused or halted, and be it killed.
func TestWorkAtItsEnd(t *testing.T) {
	for _, kill := range []bool{false, true} {
		for _, now := range []int{10, 11, 1 << 32, mostTime - 1, mostTime} {
			eachStanding(t, func(x *pair, s standing) {
				k := at(now, 50)
				k.killed = kill
				var want []api.Move
				for _, c := range x.p.Status().Children {
					if c.State <= api.SPartial {
						want = append(want, cancelMove(0, c.ID))
					}
				}
				x.wantWork(k, want...)
				switch {
				case s.state > api.PEnding:
					x.wantState(s.state)
				case s.child:
					x.wantState(api.PEnding)
				default:
					x.wantState(api.PCanceled)
				}
			})
		}
	}
}

// P28.4, its first step: one tick below its end it goes on.
func TestWorkAheadOfItsEnd(t *testing.T) {
	for _, now := range []int{0, 1, 5, 9} {
		eachStanding(t, func(x *pair, s standing) {
			x.work(at(now, 50))
			x.wantState(s.state)
		})
	}
	// It works till there, and sends nothing new at its end itself.
	x := buys(t)
	x.wantWork(at(9, 1), newMove(0, "c1", 90, 1000))
	x.ok(x.reply(0, traded("c1", 90, 1000)))
	x.wantWork(at(10, 2))
	x.wantState(api.PCanceled)
	a := order(api.Sell)
	a.Start, a.End = mostTime-10, mostTime
	y := newPair(t, a, symbolX(), setup(), 0)
	y.wantWork(at(0, 1))
	y.wantWork(at(mostTime-10, 1))
	y.wantWork(at(mostTime-1, 1), newMove(0, "c1", 90, 1000))
	y.wantWork(at(mostTime, 2), cancelMove(0, "c1"))
	y.wantState(api.PEnding)
}

// P28.4, its first step: the end is the amended one.
func TestWorkAtAnAmendedEnd(t *testing.T) {
	x := buys(t).out(1, v())
	x.ok(x.amend(100, 1000, 20, 1))
	x.wantWork(at(10, 2), newMove(0, "c2", 40, 1000))
	x.wantState(api.PWorking)
	x.ok(x.amend(100, 1000, 12, 11))
	x.wantWork(at(12, 3), cancelMove(0, "c1"), cancelMove(0, "c2"))
	x.wantState(api.PEnding)
}

// P28.4, its first step: the end comes though nothing may be moved, as the tick lies behind one at which something was.
func TestEndWithoutMoves(t *testing.T) {
	x := buys(t)
	x.wantWork(at(9, 1), newMove(0, "c1", 90, 1000))
	x.ok(x.amend(100, 1000, 6, 5))
	x.wantWork(at(7, 2))
	x.wantState(api.PEnding)
	x.wantWork(at(9, 2), cancelMove(0, "c1"))
}

// P28.4, its second step: ending or killed, with a child in each of its states.
func TestWorkCancels(t *testing.T) {
	for _, side := range []int{api.Buy, api.Sell} {
		for _, o := range []router.Offer{v(), w()} {
			for _, kill := range []bool{false, true} {
				for state, x := range childStates(t, side, o) {
					k := at(3, 50, v())
					k.killed = kill
					want := []api.Move{cancelMove(o.Place, "c1")}
					if state > api.SPartial {
						want = nil
					}
					if !kill {
						x.ok(x.end())
					}
					if !kill && state >= api.SFilled {
						x.wantState(api.PCanceled)
					}
					x.wantWork(k, want...)
					x.wantWork(k)
					if c := x.p.Status().Children[0]; want != nil && c.State != api.SCanceling || want == nil && c.State != state {
						t.Errorf("the child: %+v", c)
					}
					if kill {
						x.wantState(api.PWorking)
					}
				}
			}
		}
	}
}

// P28.4, its second step: the first one first; what is ending isn't mended by a cancel that is refused, but gets another one.
func TestWorkCancelsInOrder(t *testing.T) {
	x := buys(t)
	x.wantWork(at(1, 1, v()), newMove(0, "c1", 10, 1000))
	x.wantWork(at(2, 2, w()), newMove(1, "c2", 10, 1000))
	x.wantWork(at(3, 3, v()), newMove(0, "c3", 10, 1000))
	x.ok(x.reply(0, traded("c3", 10, 1000)))
	x.wantWork(at(4, 4, w()), newMove(1, "c4", 10, 1000))
	x.wantWork(killed(4), cancelMove(0, "c1"), cancelMove(1, "c2"), cancelMove(1, "c4"))
	x.ok(x.reply(1, says(api.ReplyRefused, "c2")), x.end())
	x.wantWork(at(5, 5), cancelMove(1, "c2"))
	x.ok(x.reply(0, says(api.ReplyCanceled, "c1")), x.reply(1, says(api.ReplyCanceled, "c2")))
	x.wantWork(at(6, 5))
	x.ok(x.reply(1, says(api.ReplyCanceled, "c4")))
	x.wantState(api.PCanceled)
}

// P28.4, its second step: killed cancels what is paused and halted too, and changes no state; then it goes on.
func TestKilled(t *testing.T) {
	eachStanding(t, func(x *pair, s standing) {
		n := 0
		for _, c := range x.p.Status().Children {
			if c.State <= api.SPartial {
				n++
			}
		}
		if got := x.work(killed(9)); len(got) != n {
			t.Errorf("%v", got)
		}
		x.wantState(s.state)
		x.wantWork(killed(9))
	})
	x := buys(t)
	x.wantWork(killed(5))
	x.wantWork(at(5, 1), newMove(0, "c1", 50, 1000))
}

// P28.4, its third step: paused and halted that is all, though the price, the quantity and the goal are others.
func TestWorkStopped(t *testing.T) {
	eachStanding(t, func(x *pair, s standing) {
		if s.state != api.PPaused && s.state != api.PHalted {
			return
		}
		for _, c := range x.p.Status().Children {
			if c.State == api.SPending {
				x.ok(x.reply(0, says(api.ReplyNew, c.ID)))
			}
		}
		x.ok(x.amend(10, 1005, 10, 2))
		x.wantWork(at(9, 50))
		x.ok(x.amend(500, 1005, 10, 2))
		x.wantWork(at(9, 50))
		x.wantState(s.state)
	})
}

// threeOut has c1 of 20, c2 of 30 and c3 of 40 out.
func threeOut(t *testing.T, side int) *pair {
	t.Helper()
	x := newPair(t, order(side), symbolX(), setup(), 0)
	x.wantWork(at(2, 1), newMove(0, "c1", 20, 1000))
	x.wantWork(at(5, 2, w()), newMove(1, "c2", 30, 1000))
	x.wantWork(at(9, 3), newMove(0, "c3", 40, 1000))
	return x
}

// P28.4, its fourth step: the last children go, till what is kept is no more than the quantity; and that is all.
func TestWorkCancelsLast(t *testing.T) {
	c1, c2, c3 := cancelMove(0, "c1"), cancelMove(1, "c2"), cancelMove(0, "c3")
	for _, side := range []int{api.Buy, api.Sell} {
		for _, c := range []struct {
			qty  int
			want []api.Move
		}{
			{100, nil}, {90, nil}, {80, []api.Move{c3}}, {60, []api.Move{c3}}, {50, []api.Move{c3}}, {40, []api.Move{c3, c2}}, {30, []api.Move{c3, c2}}, {20, []api.Move{c3, c2}}, {10, []api.Move{c3, c2, c1}},
		} {
			x := threeOut(t, side)
			if c.qty != 100 {
				x.ok(x.amend(c.qty, 1000, 10, 9))
			}
			x.wantWork(at(9, 50), c.want...)
			for i, child := range x.p.Status().Children {
				canceled := slices.ContainsFunc(c.want, func(m api.Move) bool { return m.ID == child.ID })
				if canceled != (child.State == api.SCanceling) {
					t.Errorf("the child %d: %+v", i, child)
				}
			}
			// As what is canceled is on the way it is not kept, though it is committed: nothing more goes.
			x.wantWork(at(9, 50))
		}
	}
}

// P28.4, its fourth step: nothing else is done, though there is a price to be brought, be something canceled or not.
func TestWorkCancelsLastAndThatIsAll(t *testing.T) {
	x := threeOut(t, api.Buy)
	x.ok(x.reply(0, says(api.ReplyNew, "c1")), x.amend(50, 1005, 20, 9))
	x.wantWork(at(9, 50), cancelMove(0, "c3"))
	x.wantWork(at(9, 50))
	x.ok(x.reply(0, says(api.ReplyCanceled, "c3")))
	// Now just 50 are committed: the next steps come.
	x.wantWork(at(9, 50), replaceMove(0, "c1", 20, 1005))
}

// P28.4, its fourth step: canceling children aren't kept and aren't canceled again; replacing ones are kept, but can't be canceled; done ones claim nothing.
func TestWorkCancelsLastAmongOthers(t *testing.T) {
	c1, c2, c3 := cancelMove(0, "c1"), cancelMove(1, "c2"), cancelMove(0, "c3")
	// c3 is replacing.
	bring := func() *pair {
		x := threeOut(t, api.Buy)
		x.ok(x.reply(0, says(api.ReplyNew, "c3")), x.amend(100, 1005, 10, 9))
		x.wantWork(at(9, 50), replaceMove(0, "c3", 40, 1005))
		return x
	}
	for _, c := range []struct {
		qty  int
		want []api.Move
	}{{90, nil}, {80, []api.Move{c2}}, {60, []api.Move{c2}}, {50, []api.Move{c2, c1}}, {10, []api.Move{c2, c1}}} {
		x := bring()
		x.ok(x.amend(c.qty, 1005, 10, 9))
		x.wantWork(at(9, 50), c.want...)
		x.wantWork(at(9, 50))
	}
	// c2 is canceling, as W doesn't replace: then 60 are kept.
	bring = func() *pair {
		x := threeOut(t, api.Buy)
		x.ok(x.reply(1, says(api.ReplyNew, "c2")), x.amend(100, 1005, 10, 9))
		x.wantWork(at(9, 50), c2)
		return x
	}
	for _, c := range []struct {
		qty  int
		want []api.Move
	}{{90, nil}, {80, nil}, {60, nil}, {50, []api.Move{c3}}, {20, []api.Move{c3}}, {10, []api.Move{c3, c1}}} {
		x := bring()
		x.ok(x.amend(c.qty, 1005, 10, 9))
		x.wantWork(at(9, 50), c.want...)
		x.wantWork(at(9, 50))
	}
	// c3 is done: filled, or gone.
	for _, c := range []struct {
		gone bool
		qty  int
		want []api.Move
	}{
		{false, 90, nil}, {false, 80, []api.Move{c2}}, {false, 60, []api.Move{c2}}, {false, 50, []api.Move{c2, c1}}, {false, 40, []api.Move{c2, c1}},
		{true, 50, nil}, {true, 40, []api.Move{c2}}, {true, 20, []api.Move{c2}}, {true, 10, []api.Move{c2, c1}},
	} {
		x := threeOut(t, api.Sell)
		r := traded("c3", 40, 1000)
		if c.gone {
			r = says(api.ReplyCanceled, "c3")
		}
		x.ok(x.reply(0, r), x.amend(c.qty, 1000, 9, 8))
		x.wantWork(at(8, 50), nil...)
		if c.want != nil {
			// The tick 8 lies behind the last move: nothing may go.
			x.ok(x.amend(c.qty, 1000, 20, 9))
			x.wantWork(at(9, 50), c.want...)
		}
	}
}

// P28.4, its fourth step: a child that is partly filled goes for what it claims still; off the lot too.
func TestWorkCancelsLastByClaims(t *testing.T) {
	for _, c := range []struct {
		filled, qty int
		want        []api.Move
	}{
		{39, 90, nil}, {39, 80, []api.Move{cancelMove(0, "c3"), cancelMove(1, "c2")}},
		{30, 80, []api.Move{cancelMove(0, "c3")}}, {29, 80, []api.Move{cancelMove(0, "c3")}}, {31, 80, []api.Move{cancelMove(0, "c3"), cancelMove(1, "c2")}},
	} {
		x := threeOut(t, api.Buy)
		x.ok(x.reply(0, traded("c3", c.filled, 1000)))
		if c.qty != 90 {
			x.ok(x.amend(c.qty, 1000, 10, 9))
		} else {
			x.ok(x.amend(c.qty, 1000, 20, 9))
		}
		x.wantWork(at(9, 50), c.want...)
	}
}

// P28.4: more than the quantity is filled in the end, if a cancel comes too late; it never is above Most.
func TestWorkFilledAboveQty(t *testing.T) {
	x := threeOut(t, api.Buy)
	x.ok(x.amend(10, 1000, 10, 9))
	x.wantWork(at(9, 50), cancelMove(0, "c3"), cancelMove(1, "c2"), cancelMove(0, "c1"))
	x.ok(x.reply(0, traded("c3", 40, 1000)), x.reply(1, traded("c2", 5, 1000)), x.bust(0, "c3", 40, 1000))
	x.wantState(api.PWorking)
	x.wantSums(5, 5000, 40, 45, 5000+45*1000)
	x.wantWork(at(9, 50))
	x.ok(x.reply(1, says(api.ReplyRefused, "c2")))
	x.wantWork(at(9, 50), cancelMove(1, "c2"))
	x.ok(x.reply(1, traded("c2", 25, 1000)), x.reply(0, traded("c1", 20, 1000)))
	x.wantState(api.PCanceled)
	x.wantSums(50, 50000, 40, 0, 50000)
}

// P28.4, its fifth step: a new price, with a child in each of its states, where the venue replaces and where it doesn't.
func TestWorkReprices(t *testing.T) {
	for _, side := range []int{api.Buy, api.Sell} {
		for _, o := range []router.Offer{v(), w()} {
			for state, x := range childStates(t, side, o) {
				x.ok(x.amend(100, 1005, 10, 1))
				before := x.p.Status().Children[0]
				var want []api.Move
				switch {
				case state != api.SNew && state != api.SPartial:
				case o.Place == 0:
					want = []api.Move{replaceMove(0, "c1", 10, 1005)}
				default:
					want = []api.Move{cancelMove(1, "c1")}
				}
				none := at(1, 50)
				none.room = 0
				x.wantWork(none, want...)
				x.wantWork(none)
				switch {
				case want == nil:
					if after := x.p.Status().Children[0]; after != before {
						t.Errorf("%+v, behind %+v", after, before)
					}
				case o.Place == 0:
					x.wantChild(0, api.SReplacing, 10, 1000, 10, 1005, before.Cum, 10-before.Cum)
				default:
					x.wantChild(0, api.SCanceling, 10, 1000, 0, 0, before.Cum, 10-before.Cum)
				}
			}
		}
	}
}

// P28.4, its fifth step: the price is looked at, not whether it was amended: a child that has it stays.
func TestWorkRepricesWhatHasAnother(t *testing.T) {
	x := buys(t).out(3, v())
	x.ok(x.reply(0, says(api.ReplyNew, "c1")), x.reply(0, says(api.ReplyNew, "c2")), x.reply(0, traded("c3", 3, 1000)))
	x.ok(x.amend(200, 1005, 20, 3), x.amend(100, 1000, 10, 3))
	x.wantWork(at(3, 50))
	x.ok(x.amend(100, 1005, 10, 3))
	x.wantWork(at(3, 50), replaceMove(0, "c1", 10, 1005), replaceMove(0, "c2", 10, 1005), replaceMove(0, "c3", 10, 1005))
	x.ok(x.reply(0, says(api.ReplyReplaced, "c1")), x.reply(0, says(api.ReplyRefused, "c2")), x.reply(0, says(api.ReplyReplaced, "c3")))
	// Only c2 is still at 1000; it is asked again at each tick.
	x.wantWork(at(3, 50), replaceMove(0, "c2", 10, 1005))
	x.ok(x.reply(0, says(api.ReplyRefused, "c2")))
	x.wantWork(at(4, 50), replaceMove(0, "c2", 10, 1005), newMove(0, "c50", 10, 1005))
	x.ok(x.reply(0, says(api.ReplyReplaced, "c2")))
	x.wantWork(at(4, 51))
	x.wantChild(2, api.SPartial, 10, 1005, 0, 0, 3, 7)
	// A new child is sent at the price, though the old ones aren't brought there yet.
	x.ok(x.amend(100, 995, 10, 4))
	x.wantWork(at(6, 51), replaceMove(0, "c1", 10, 995), replaceMove(0, "c2", 10, 995), replaceMove(0, "c3", 10, 995), newMove(0, "c51", 20, 995))
	x.wantSums(3, 3000, 0, 57, 3000+27*1005+10*1005+60*995)
}

// P28.4, its fifth step: what was busted of a child is no part of its quantity.
func TestWorkRepricesBusted(t *testing.T) {
	x := buys(t).out(1, v())
	x.ok(x.reply(0, traded("c1", 4, 1000)), x.bust(0, "c1", 3, 1000), x.amend(100, 1005, 10, 1))
	x.wantWork(at(1, 50), replaceMove(0, "c1", 7, 1005))
	x.wantChild(0, api.SReplacing, 7, 1000, 7, 1005, 1, 6)
}

// P28.4, its sixth step: a goal below, at and above what is committed.
func TestWorkGoal(t *testing.T) {
	for _, side := range []int{api.Buy, api.Sell} {
		x := newPair(t, order(side), symbolX(), setup(), 0)
		x.wantWork(at(0, 1))
		x.wantWork(at(5, 1), newMove(0, "c1", 50, 1000))
		x.wantWork(at(5, 2))
		x.ok(x.amend(100, 1000, 20, 5))
		// The goal is 30 at 5, and 50 at 10: what is out stays.
		x.wantWork(at(5, 2))
		x.wantWork(at(10, 2))
		x.wantWork(at(11, 2), newMove(0, "c2", 10, 1000))
		x.ok(x.reply(0, traded("c1", 7, 1000)), x.reply(0, says(api.ReplyCanceled, "c1")))
		// 17 are committed; the goal is 60: 40 on the lot.
		x.wantWork(at(12, 3), newMove(0, "c3", 40, 1000))
		x.wantSums(7, 7000, 0, 50, x.p.Need())
		x.wantWork(at(12, 4))
		// The goal is 70 at 13 and at 14, 80 at 15; 57 are committed, and 67 behind c4.
		x.wantWork(at(13, 4), newMove(0, "c4", 10, 1000))
		x.wantWork(at(14, 5))
		x.wantWork(at(15, 5), newMove(0, "c5", 10, 1000))
	}
}

// P28.4, its sixth step: each algorithm's goal, by the clock, the market, and what is filled or busted.
func TestWorkGoals(t *testing.T) {
	list := algos(api.Buy)
	vwap := newPair(t, list[1], symbolX(), setup(), 0)
	vwap.wantWork(at(5, 1), newMove(0, "c1", 30, 1000))
	vwap.wantWork(at(9, 2), newMove(0, "c2", 60, 1000))
	flow := newPair(t, list[2], symbolX(), setup(), 10)
	k := at(0, 1)
	k.volume = 110
	flow.wantWork(k, newMove(0, "c1", 30, 1000))
	berg := newPair(t, list[3], symbolX(), setup(), 0)
	berg.wantWork(at(0, 1), newMove(0, "c1", 30, 1000))
	berg.wantWork(at(9, 2))
	berg.ok(berg.reply(0, traded("c1", 10, 1000)))
	berg.wantWork(at(9, 2), newMove(0, "c2", 10, 1000))
	// What was busted counts as done: it isn't shown anew.
	berg.ok(berg.bust(0, "c1", 10, 1000))
	berg.wantWork(at(9, 3))
	berg.ok(berg.reply(0, traded("c1", 20, 1000)), berg.reply(0, traded("c2", 10, 999)))
	berg.wantWork(at(9, 3), newMove(0, "c3", 30, 1000))
	berg.ok(berg.reply(0, traded("c3", 20, 998)))
	berg.wantWork(at(9, 4), newMove(0, "c4", 20, 1000))
	berg.ok(berg.reply(0, traded("c3", 10, 998)), berg.reply(0, traded("c4", 20, 997)))
	berg.wantWork(at(9, 5), newMove(0, "c5", 10, 1000))
	berg.ok(berg.reply(0, traded("c5", 10, 996)))
	berg.wantState(api.PCanceled)
}

// P28.4, its sixth step: where the goal is refused there is none, and the steps ahead are made nonetheless.
func TestWorkWithoutGoal(t *testing.T) {
	for _, volume := range []int{leastInt, -1, 0, 6, mostLimit + 1, greatestInt} {
		for _, a := range algos(api.Buy) {
			x := newPair(t, a, symbolX(), setup(), 7)
			k := at(9, 1)
			k.volume = 407
			if m := x.work(k); len(m) != 1 {
				t.Fatalf("%v", m)
			}
			x.ok(x.reply(0, traded("c1", 10, 1000)), x.amend(200, 1005, 10, 9))
			k.volume, k.first = volume, 2
			x.wantWork(k, replaceMove(0, "c1", x.p.Status().Children[0].Qty, 1005))
			k.volume = mostLimit
			if m := x.work(k); len(m) != 1 || m[0].Kind != api.OrderNew {
				t.Fatalf("%v", m)
			}
		}
	}
	// No goal is needed to cancel.
	x := newPair(t, order(api.Buy), symbolX(), setup(), 7)
	k := at(2, 1)
	k.volume = 7
	x.wantWork(k, newMove(0, "c1", 20, 1000))
	x.ok(x.amend(10, 1000, 10, 2))
	x.wantWork(at(2, 2), cancelMove(0, "c1"))
}

// P28.4, its sixth step: offers of places that are no venue's aren't met, whatever they are.
func TestWorkOffers(t *testing.T) {
	other := func(place int) router.Offer {
		o := v()
		o.Place, o.Fee = place, 0
		return o
	}
	wrong := func(place int) router.Offer {
		o := other(place)
		o.Lot, o.Shown = 0, -1
		return o
	}
	sick := v()
	sick.Healthy = false
	small := v()
	small.Shown = 20
	all := []router.Offer{v(), v(), v(), v(), w(), w(), w(), w()}
	both := []api.Move{newMove(0, "c1", 20, 1000), newMove(1, "c2", 30, 1000)}
	one := []api.Move{newMove(0, "c1", 50, 1000)}
	for _, c := range []struct {
		offers []router.Offer
		want   []api.Move
	}{
		{[]router.Offer{v()}, one}, {[]router.Offer{v(), w()}, one}, {[]router.Offer{w(), v()}, one}, {[]router.Offer{w()}, []api.Move{newMove(1, "c1", 50, 1000)}},
		{[]router.Offer{}, nil}, {[]router.Offer{sick}, nil}, {[]router.Offer{sick, w()}, []api.Move{newMove(1, "c1", 50, 1000)}},
		{[]router.Offer{small, w()}, both}, {[]router.Offer{w(), small}, both},
		{[]router.Offer{other(-1)}, nil}, {[]router.Offer{other(2)}, nil}, {[]router.Offer{other(leastInt), other(greatestInt)}, nil},
		{[]router.Offer{other(-1), v(), other(2), other(8)}, one}, {[]router.Offer{wrong(-1), wrong(2), v()}, one}, {[]router.Offer{wrong(leastInt), wrong(greatestInt), v()}, one},
		// one that is wrong at a venue's place
		{[]router.Offer{wrong(1), v()}, nil}, {[]router.Offer{v(), wrong(0)}, nil},
		// more than one of a place: the first one gets what it shows, and then all that is left
		{[]router.Offer{small, small}, []api.Move{newMove(0, "c1", 30, 1000), newMove(0, "c2", 20, 1000)}},
		{[]router.Offer{small, small, w()}, []api.Move{newMove(0, "c1", 20, 1000), newMove(0, "c2", 20, 1000), newMove(1, "c3", 10, 1000)}},
		// eight of them, and nine, of which the ninth is none of a venue's, or is
		{all, one}, {append(slices.Clone(all), other(2)), one}, {append([]router.Offer{wrong(-1)}, all...), one}, {append(slices.Clone(all), v()), nil},
	} {
		x := buys(t)
		x.wantWork(at(5, 1, c.offers...), c.want...)
		claims := 0
		for j, m := range c.want {
			claims += m.Qty
			x.wantChild(j, api.SPending, m.Qty, 1000, 0, 0, 0, m.Qty)
			if child := x.p.Status().Children[j]; child.Venue != []string{"V", "W"}[m.Place] || child.ID != m.ID {
				t.Errorf("%+v", child)
			}
		}
		x.wantSums(0, 0, 0, claims, 100000)
	}
	// No list of offers at all.
	x := buys(t)
	x.wantWork(tick{now: 5, first: 1, room: 9})
}

// P28.4, its sixth step: the difference is split on the symbol's lot and the venues' steps; what is below them is left over.
func TestWorkLots(t *testing.T) {
	o := v()
	o.Lot = 20
	x := buys(t)
	x.wantWork(at(1, 1, o))
	x.wantWork(at(3, 1, o), newMove(0, "c1", 20, 1000))
	o.Lot = 15
	x.wantWork(at(5, 2, o), newMove(0, "c2", 30, 1000))
	o.Lot = 1
	x.ok(x.reply(0, traded("c2", 3, 1000)), x.reply(0, says(api.ReplyCanceled, "c2")))
	x.wantWork(at(5, 3, o), newMove(0, "c3", 20, 1000))
}

// three are offers of which each gets a piece of 50.
func three() []router.Offer {
	one, other := v(), v()
	one.Shown, other.Shown, other.Fee = 10, 20, 2
	last := w()
	last.Fee = 3
	return []router.Offer{one, other, last}
}

// P28.4, its sixth step: only as many pieces as there is room for, the first ones.
func TestWorkRoom(t *testing.T) {
	want := []api.Move{newMove(0, "c1", 10, 1000), newMove(0, "c2", 20, 1000), newMove(1, "c3", 20, 1000)}
	for _, room := range []int{leastInt, -2, -1, 0, 1, 2, 3, 4, 256, greatestInt} {
		x := buys(t)
		k := at(5, 1, three()...)
		k.room = room
		n := min(max(room, 0), 3)
		x.wantWork(k, want[:n]...)
		if s := x.p.Status(); len(s.Children) != n {
			t.Fatalf("%+v", s)
		}
		// What is left out comes when there is room again.
		k.room, k.first = 256, n+1
		if m := x.work(k); (len(m) > 0) != (n < 3) {
			t.Fatalf("room for %d, then %v", room, m)
		}
	}
	// The room is for what is new alone.
	x := buys(t).out(1, v())
	x.ok(x.reply(0, says(api.ReplyNew, "c1")), x.amend(100, 1005, 10, 1))
	k := at(2, 2)
	k.room = 1
	x.wantWork(k, replaceMove(0, "c1", 10, 1005), newMove(0, "c2", 10, 1005))
	x.ok(x.reply(0, says(api.ReplyReplaced, "c1")), x.amend(100, 1000, 10, 2))
	k.now, k.room = 3, 0
	x.wantWork(k, replaceMove(0, "c1", 10, 1000))
}

// P28.4, its sixth step: the names go on from first, which is from 0 to MaxTime; those behind it may be above.
func TestWorkFirst(t *testing.T) {
	for _, first := range []int{leastInt, -10, -1, mostTime + 1, mostTime + 2, greatestInt - 1, greatestInt} {
		x := buys(t).out(1, v())
		x.ok(x.reply(0, says(api.ReplyNew, "c1")), x.amend(100, 1005, 10, 1))
		x.wantWork(at(5, first, three()...), replaceMove(0, "c1", 10, 1005))
		if s := x.p.Status(); len(s.Children) != 1 {
			t.Fatalf("%+v", s)
		}
	}
	for _, first := range []int{0, 1, 8, 9, 98, 1 << 32, mostTime - 2, mostTime - 1, mostTime} {
		x := buys(t)
		name := func(i int) string { return "c" + strconv.Itoa(first+i) }
		x.wantWork(at(5, first, three()...), newMove(0, name(0), 10, 1000), newMove(0, name(1), 20, 1000), newMove(1, name(2), 20, 1000))
		x.ok(x.reply(0, traded(name(1), 20, 1000)), x.reply(1, says(api.ReplyCanceled, name(2))))
		x.want(x.reply(1, says(api.ReplyNew, name(0))), api.ErrUnknown)
	}
	x := buys(t)
	x.wantWork(at(5, mostTime, three()...), newMove(0, "c1099511627776", 10, 1000), newMove(0, "c1099511627777", 20, 1000), newMove(1, "c1099511627778", 20, 1000))
	y := buys(t)
	y.wantWork(at(1, 0), newMove(0, "c0", 10, 1000))
}

// P28.4: two children of one name at one place: the first one is met.
func TestWorkSameName(t *testing.T) {
	x := buys(t)
	x.wantWork(at(1, 7), newMove(0, "c7", 10, 1000))
	x.wantWork(at(3, 7), newMove(0, "c7", 20, 1000))
	x.wantWork(at(4, 7, w()), newMove(1, "c7", 10, 1000))
	x.ok(x.reply(0, traded("c7", 10, 1000)))
	x.wantChild(0, api.SFilled, 10, 1000, 0, 0, 10, 0)
	x.want(x.reply(0, traded("c7", 10, 1000)), api.ErrState)
	x.ok(x.reply(1, says(api.ReplyNew, "c7")))
	x.wantChild(2, api.SNew, 10, 1000, 0, 0, 0, 10)
	x.ok(x.bust(0, "c7", 10, 1000))
	x.wantWork(killed(4), cancelMove(0, "c7"), cancelMove(1, "c7"))
}

// kinds tells how many moves of each kind there are.
func kinds(moves []api.Move) [4]int {
	var n [4]int
	for _, m := range moves {
		n[m.Kind]++
	}
	return n
}

// P28.4 and P28.8: a window that has no room at the first move of a step, or within it, and opens again at a later tick: what is left out comes then.
func TestWindowOfNew(t *testing.T) {
	x := newPair(t, order(api.Buy), symbolX(), narrow(3, 2), 0)
	x.wantWork(at(4, 1, three()...), newMove(0, "c1", 10, 1000), newMove(0, "c2", 20, 1000))
	if s := x.p.Status(); len(s.Children) != 2 {
		t.Fatalf("%+v", s)
	}
	x.wantWork(at(5, 3, three()...))
	x.wantWork(at(6, 3, three()...))
	// At 4 two were moved: at 7 they lie behind the window.
	x.wantWork(at(7, 3, three()...), newMove(0, "c3", 10, 1000), newMove(0, "c4", 20, 1000))
	// A tick below the last one: nothing.
	x.wantWork(at(6, 5, three()...))
	x.wantWork(at(9, 5, three()...))
	y := newPair(t, order(api.Buy), symbolX(), narrow(3, 2), 0)
	y.wantWork(at(1, 1), newMove(0, "c1", 10, 1000))
	y.wantWork(at(2, 2, three()...), newMove(0, "c2", 10, 1000))
	y.wantWork(at(3, 3, three()...))
	y.wantWork(at(4, 3, three()...), newMove(0, "c3", 10, 1000))
	y.wantWork(at(5, 4, three()...), newMove(0, "c4", 10, 1000))
}

// P28.4: of the second and of the fourth step the window lets through the first ones of each.
func TestWindowOfCancels(t *testing.T) {
	bring := func() *pair {
		x := newPair(t, order(api.Buy), symbolX(), narrow(5, 4), 0)
		x.out(4, v())
		x.wantWork(at(5, 5))
		return x
	}
	for _, kill := range []bool{false, true} {
		x := bring()
		if !kill {
			x.ok(x.end())
		}
		k := at(5, 50)
		k.killed = kill
		x.wantWork(k)
		k.now = 6
		x.wantWork(k, cancelMove(0, "c1"))
		x.wantWork(k)
		// Of c1's cancel, and the new ones of the ticks 4 and 3.
		k.now = 7
		x.wantWork(k, cancelMove(0, "c2"))
		k.now = 9
		x.wantWork(k, cancelMove(0, "c3"), cancelMove(0, "c4"))
	}
	x := bring()
	x.ok(x.amend(10, 1000, 30, 4))
	x.wantWork(at(5, 50))
	x.wantWork(at(6, 50), cancelMove(0, "c4"))
	x.wantWork(at(6, 50))
	x.ok(x.amend(20, 1000, 30, 4))
	x.wantWork(at(8, 50), cancelMove(0, "c3"))
	x.wantWork(at(9, 50))
}

// P28.4: of the fifth step the window lets through the first ones; then nothing is left for the sixth one. Where it has room for all of the fifth, what is left goes to the sixth.
func TestWindowOfPrices(t *testing.T) {
	for _, c := range []struct {
		most int
		want [4]int
	}{{4, [4]int{}}, {5, [4]int{3: 1}}, {6, [4]int{2: 1, 3: 1}}, {7, [4]int{2: 1, 3: 2}}, {8, [4]int{2: 2, 3: 2}}, {9, [4]int{1: 1, 2: 2, 3: 2}}, {11, [4]int{1: 3, 2: 2, 3: 2}}, {12, [4]int{1: 3, 2: 2, 3: 2}}} {
		x := newPair(t, order(api.Sell), symbolX(), narrow(100, c.most), 0)
		for i, o := range []router.Offer{v(), w(), v(), w()} {
			id := "c" + strconv.Itoa(i+1)
			x.wantWork(at(i+1, i+1, o), newMove(o.Place, id, 10, 1000))
			x.ok(x.reply(o.Place, says(api.ReplyNew, id)))
		}
		x.ok(x.amend(100, 1005, 20, 4))
		moves := x.work(at(18, 5, three()...))
		if kinds(moves) != c.want {
			t.Errorf("of at most %d: %v; asked for %v", c.most, moves, c.want)
		}
		all := []api.Move{replaceMove(0, "c1", 10, 1005), cancelMove(1, "c2"), replaceMove(0, "c3", 10, 1005), cancelMove(1, "c4")}
		if n := min(len(moves), 4); !slices.Equal(moves[:n], all[:n]) {
			t.Errorf("%v", moves)
		}
	}
}

// P28.4: a child is behind a move as if that had been sent; one that was left out is as it was.
func TestWindowLeavesOut(t *testing.T) {
	x := newPair(t, order(api.Buy), symbolX(), narrow(4, 2), 0).out(2, v())
	x.ok(x.reply(0, says(api.ReplyNew, "c1")), x.reply(0, traded("c2", 1, 1000)), x.amend(100, 1005, 10, 2))
	x.wantWork(at(5, 3), replaceMove(0, "c1", 10, 1005))
	x.wantChild(0, api.SReplacing, 10, 1000, 10, 1005, 0, 10)
	x.wantChild(1, api.SPartial, 10, 1000, 0, 0, 1, 9)
	x.wantWork(at(6, 3), replaceMove(0, "c2", 10, 1005))
	x.wantChild(1, api.SReplacing, 10, 1000, 10, 1005, 1, 9)
	x.wantWork(killed(7))
	x.ok(x.reply(0, says(api.ReplyRefused, "c1")))
	x.wantWork(killed(9), cancelMove(0, "c1"))
	x.wantChild(0, api.SCanceling, 10, 1000, 0, 0, 0, 10)
}
