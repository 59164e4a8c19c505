package gateway_test

import (
	"strconv"
	"testing"

	"spigot/api"
)

// P29.2: the tick that is told behind it, of one more each time.
func TestTickIsTold(t *testing.T) {
	x := newPair(t, setup())
	for now := 1; now <= 40; now++ {
		x.want(x.tick(), api.OK)
		if v := x.g.View(); v.Now != now {
			t.Fatalf("now %d, not %d", v.Now, now)
		}
		if now == 20 {
			x.done(x.kill())
		}
	}
}

// P29.2: the tick is the one that parents work at: ahead of Start nothing goes out, at End it ends.
func TestTickIsTheParents(t *testing.T) {
	a := order("p")
	a.Start, a.End = 3, 5
	x := begun(t, setup(), a)
	x.ticks(3)
	x.want(x.tick(), api.OK, newOut(1, 1, "c1", "X", api.Buy, 50, 1000))
	x.want(x.tick(), api.OK, cancelOut(1, 2, "c1"))
	x.wantState("p", api.PEnding)
	x.want(x.tick(), api.OK)
}

// P29.2: the parents in the order of their slots, which is that in which they were taken, whatever their names are.
func TestTickInOrder(t *testing.T) {
	x := begun(t, setup(), order("q"), sale("z"), order("a"))
	x.want(x.tick(), api.OK, newOut(1, 1, "c1", "X", api.Buy, 10, 1000), newOut(1, 2, "c2", "X", api.Sell, 10, 1000), newOut(1, 3, "c3", "X", api.Buy, 10, 1000))
	x.done(x.ask(pauseOf("z")), x.ask(iceberg("b")))
	x.want(x.tick(), api.OK, newOut(1, 4, "c4", "X", api.Buy, 10, 1000), newOut(1, 5, "c5", "X", api.Buy, 10, 1000), newOut(1, 6, "c6", "X", api.Buy, 20, 1000))
}

// P29.2: each kind of move, in numbers and to the byte.
func TestMoves(t *testing.T) {
	x := begun(t, setup(), sale("p"))
	out, e := x.g.Tick()
	x.m.tick()
	if want := "8=FIX.4.4\x019=40\x0135=D\x0134=1\x0111=c1\x0155=X\x0154=2\x0138=10\x0144=1000\x0110=058\x01"; e != api.OK || len(out) != 1 || out[0].To != 1 || out[0].Text != want {
		t.Fatalf("%+v, %d", out, e)
	}
	x.l.ticked(texts(t, out))
	x.done(x.say("V", acks("c1")), x.ask(amendOf("p", 100, 1005, 20)))
	// What is out is brought to the new price; evenly to 20 no more than 10 are to be out.
	x.want(x.tick(), api.OK, "1 35=G|34=2|11=c1|38=10|44=1005|")
	x.done(x.say("V", says(api.ReplyReplaced, "c1", "a")), x.ask(cancelOf("p")))
	x.want(x.tick(), api.OK, "1 35=F|34=3|11=c1|")
}

// P29.2: the moves of one parent behind those of another, also where they are of several kinds.
func TestMovesOfSeveral(t *testing.T) {
	x := begun(t, setup(), order("p"), order("q"), order("r"))
	x.done(x.tick(), x.say("V", acks("c1")), x.say("V", acks("c2")), x.say("V", acks("c3")))
	x.done(x.ask(amendOf("p", 100, 1005, 10)), x.ask(cancelOf("q")), x.ask(amendOf("r", 100, 995, 10)))
	x.want(x.tick(), api.OK,
		replaceOut(1, 4, "c1", 10, 1005), newOut(1, 5, "c4", "X", api.Buy, 10, 1005),
		cancelOut(1, 6, "c2"),
		replaceOut(1, 7, "c3", 10, 995), newOut(1, 8, "c5", "X", api.Buy, 10, 995))
}

// P29.2: each venue has numbers of its own, over several ticks and several parents.
func TestNumbersByVenue(t *testing.T) {
	s := setup()
	s.Venues[0].Shown, s.Venues[1].Shown = 10, 10
	x := begun(t, s, iceberg("p"))
	b := iceberg("q")
	b.Side, b.Show = api.Sell, 30
	x.done(x.ask(b))
	x.want(x.tick(), api.OK,
		newOut(1, 1, "c1", "X", api.Buy, 10, 1000), newOut(2, 1, "c2", "X", api.Buy, 10, 1000),
		newOut(1, 2, "c3", "X", api.Sell, 20, 1000), newOut(2, 2, "c4", "X", api.Sell, 10, 1000))
	x.done(x.say("W", trades("c2", "e", 10, 1000)), x.say("V", acks("c3")), x.say("W", acks("c4")))
	x.done(x.ask(amendOf("q", 100, 1005, 1000)))
	x.want(x.tick(), api.OK, newOut(1, 3, "c5", "X", api.Buy, 10, 1000), replaceOut(1, 4, "c3", 20, 1005), cancelOut(2, 3, "c4"))
	x.want(x.tick(), api.OK)
	x.done(x.ask(cancelOf("p")), x.ask(cancelOf("q")))
	x.want(x.tick(), api.OK, cancelOut(1, 5, "c1"), cancelOut(1, 6, "c5"))
	x.done(x.say("V", says(api.ReplyRefused, "c3", "")), x.say("V", says(api.ReplyRefused, "c1", "")))
	x.want(x.tick(), api.OK, cancelOut(1, 7, "c1"), cancelOut(1, 8, "c3"))
}

// P29.2: an offer is what the setup says of the venue: the lot, the fee, what is shown.
func TestOffers(t *testing.T) {
	for _, c := range []struct {
		change func(s *api.Setup)
		want   []string
	}{
		{func(s *api.Setup) {}, []string{newOut(1, 1, "c1", "X", api.Buy, 50, 1000)}},
		{func(s *api.Setup) { s.Venues[0].Fee = 3 }, []string{newOut(2, 1, "c1", "X", api.Buy, 50, 1000)}},
		{func(s *api.Setup) { s.Venues[0].Shown = 20 }, []string{newOut(1, 1, "c1", "X", api.Buy, 20, 1000), newOut(2, 1, "c2", "X", api.Buy, 30, 1000)}},
		{func(s *api.Setup) { s.Venues[1].Shown, s.Venues[0].Shown = 20, 20 }, []string{newOut(1, 1, "c1", "X", api.Buy, 30, 1000), newOut(2, 1, "c2", "X", api.Buy, 20, 1000)}},
		{func(s *api.Setup) { s.Venues[0].Lot = 40 }, []string{newOut(1, 1, "c1", "X", api.Buy, 40, 1000), newOut(2, 1, "c2", "X", api.Buy, 10, 1000)}},
		{func(s *api.Setup) { s.Venues[0].Lot, s.Venues[1].Lot = 60, 30 }, []string{newOut(2, 1, "c1", "X", api.Buy, 30, 1000)}},
		{func(s *api.Setup) { s.Venues[0].Lot, s.Venues[1].Lot = 60, 70 }, nil},
	} {
		s := setup()
		c.change(&s)
		a := iceberg("p")
		a.Show = 50
		x := begun(t, s, a)
		x.want(x.tick(), api.OK, c.want...)
	}
}

// P29.2: a venue that has a fault gets nothing new any more; what it has is canceled still.
func TestUnhealthyVenue(t *testing.T) {
	x := begun(t, setup(), order("p"), order("q"))
	x.ticks(1)
	x.want(x.say("V", trades("c1", "e", 11, 1000)), api.ErrBig, reject(1, 11, api.ErrBig))
	x.wantFaults(true, 1, 0)
	x.done(x.resume())
	x.want(x.tick(), api.OK, newOut(2, 1, "c3", "X", api.Buy, 10, 1000), newOut(2, 2, "c4", "X", api.Buy, 10, 1000))
	x.done(x.ask(amendOf("p", 10, 1000, 10)))
	x.want(x.tick(), api.OK, cancelOut(2, 3, "c3"), newOut(2, 4, "c5", "X", api.Buy, 10, 1000))
	x.done(x.ask(cancelOf("q")))
	x.want(x.tick(), api.OK, cancelOut(1, 3, "c2"), cancelOut(2, 5, "c4"), cancelOut(2, 6, "c5"))
	x.want(x.say("W", trades("c3", "e", 10, 1001)), api.ErrBand, reject(2, 11, api.ErrBand))
	x.done(x.resume(), x.ask(order("r")))
	x.want(x.tick(), api.OK)
	x.ticks(3)
	if p := x.parent("r"); len(p.Children) != 0 || p.State != api.PWorking {
		t.Errorf("%+v", p)
	}
}

// P29.2: while killed nothing new goes out, only cancels.
func TestTickWhileKilled(t *testing.T) {
	x := begun(t, setup(), order("p"), order("q"))
	x.done(x.kill())
	x.want(x.tick(), api.OK)
	x.done(x.resume())
	x.want(x.tick(), api.OK, newOut(1, 1, "c1", "X", api.Buy, 20, 1000), newOut(1, 2, "c2", "X", api.Buy, 20, 1000))
	x.done(x.kill(), x.say("V", acks("c2")))
	x.want(x.tick(), api.OK, cancelOut(1, 3, "c1"), cancelOut(1, 4, "c2"))
	x.want(x.tick(), api.OK)
	x.done(x.say("V", says(api.ReplyCanceled, "c1", "a")), x.resume())
	x.want(x.tick(), api.OK, newOut(1, 5, "c3", "X", api.Buy, 50, 1000), newOut(1, 6, "c4", "X", api.Buy, 30, 1000))
}

// P29.2: children's names go on through all parents.
func TestChildrensNames(t *testing.T) {
	s := setup()
	s.Children = 12
	x := begun(t, s, order("p"), order("q"))
	n := 0
	for range 6 {
		n += 2
		x.want(x.tick(), api.OK, newOut(1, n-1, "c"+strconv.Itoa(n-1), "X", api.Buy, 10, 1000), newOut(1, n, "c"+strconv.Itoa(n), "X", api.Buy, 10, 1000))
	}
	// None may be made any more, though all are done.
	for i := range 12 {
		x.done(x.say("V", trades("c"+strconv.Itoa(i+1), "e"+strconv.Itoa(i), 10, 1000-5*(i/2%2))))
	}
	x.want(x.tick(), api.OK)
	x.done(x.ask(order("r")))
	x.want(x.tick(), api.OK)
}

// P29.2: the last child is made of one parent, within a slice, and the next parent gets none.
func TestRoomOfChildren(t *testing.T) {
	for room, want := range [][]string{
		1: {newOut(1, 1, "c1", "X", api.Buy, 10, 1000)},
		2: {newOut(1, 1, "c1", "X", api.Buy, 10, 1000), newOut(2, 1, "c2", "X", api.Buy, 10, 1000)},
		3: {newOut(1, 1, "c1", "X", api.Buy, 10, 1000), newOut(2, 1, "c2", "X", api.Buy, 10, 1000), newOut(1, 2, "c3", "X", api.Buy, 10, 1000)},
		4: {newOut(1, 1, "c1", "X", api.Buy, 10, 1000), newOut(2, 1, "c2", "X", api.Buy, 10, 1000), newOut(1, 2, "c3", "X", api.Buy, 10, 1000), newOut(2, 2, "c4", "X", api.Buy, 10, 1000)},
		5: {newOut(1, 1, "c1", "X", api.Buy, 10, 1000), newOut(2, 1, "c2", "X", api.Buy, 10, 1000), newOut(1, 2, "c3", "X", api.Buy, 10, 1000), newOut(2, 2, "c4", "X", api.Buy, 10, 1000), newOut(1, 3, "c5", "X", api.Buy, 10, 1000)},
	} {
		if room == 0 {
			continue
		}
		s := setup()
		s.Children = room
		s.Venues[0].Shown, s.Venues[1].Shown = 10, 10
		x := begun(t, s, iceberg("p"), iceberg("q"), iceberg("r"))
		x.want(x.tick(), api.OK, want...)
		if room < 5 {
			x.want(x.tick(), api.OK)
		} else {
			x.tick()
		}
	}
	// Replaces and cancels need no room.
	s := setup()
	s.Children = 1
	x := begun(t, s, order("p"), order("q"))
	x.want(x.tick(), api.OK, newOut(1, 1, "c1", "X", api.Buy, 10, 1000))
	x.done(x.say("V", acks("c1")), x.ask(amendOf("p", 100, 995, 10)))
	x.want(x.tick(), api.OK, replaceOut(1, 2, "c1", 10, 995))
	x.done(x.say("V", says(api.ReplyReplaced, "c1", "a")), x.ask(cancelOf("p")))
	x.want(x.tick(), api.OK, cancelOut(1, 3, "c1"))
	x.want(x.say("V", says(api.ReplyCanceled, "c1", "a")), api.OK, stands(5, "p", 4, 0, 0))
	x.want(x.tick(), api.OK)
}

// P29.2: parents that come to their ends by the tick itself are settled at once, each report where its parent's turn is; what was filled is what is left of their reservations.
func TestEndsByTheTick(t *testing.T) {
	a, b, d := order("p"), sale("q"), order("s")
	a.End, b.End, d.End = 3, 3, 3
	x := begun(t, setup(), a, b, order("r"), d)
	x.ticks(1)
	x.done(x.say("V", trades("c2", "e1", 40, 1005)), x.say("V", trades("c4", "e2", 15, 995)), x.say("V", says(api.ReplyCanceled, "c4", "a")))
	x.done(x.ask(pauseOf("q")), x.ask(pauseOf("s")), x.ask(pauseOf("p")))
	x.want(x.tick(), api.OK, newOut(1, 5, "c5", "X", api.Buy, 10, 1000))
	x.wantBook(1, 401000, 0, 100000, 101000, 100000, 100000)
	// p has c1 out; q is done; r goes on; s is done.
	x.want(x.tick(), api.OK, cancelOut(1, 6, "c1"), stands(10, "q", 4, 40, 0), newOut(1, 7, "c6", "X", api.Buy, 10, 1000), stands(11, "s", 4, 15, 0))
	x.wantBook(1, 200000+40*1005+15*995, 40*1005+15*995, 100000, 0, 100000, 0)
	x.want(x.tick(), api.OK, newOut(1, 8, "c7", "X", api.Buy, 10, 1000))
	x.want(x.say("V", says(api.ReplyCanceled, "c1", "a")), api.OK, stands(12, "p", 4, 0, 0))
	x.wantBook(1, 100000+40*1005+15*995, 40*1005+15*995, 0, 0, 100000, 0)
}

// P29.2, by the window: what it doesn't let through is left for later ticks, cancels too.
func TestWindow(t *testing.T) {
	s := setup()
	s.Window, s.Most = 3, 2
	x := begun(t, s, order("p"), order("q"))
	both := func(seq, child int) []string {
		return []string{newOut(1, seq, "c"+strconv.Itoa(child), "X", api.Buy, 10, 1000), newOut(1, seq+1, "c"+strconv.Itoa(child+1), "X", api.Buy, 10, 1000)}
	}
	x.want(x.tick(), api.OK, both(1, 1)...)
	x.want(x.tick(), api.OK, both(3, 3)...)
	x.want(x.tick(), api.OK)
	x.done(x.ask(cancelOf("p")))
	x.want(x.tick(), api.OK, cancelOut(1, 5, "c1"), newOut(1, 6, "c5", "X", api.Buy, 20, 1000))
	x.want(x.tick(), api.OK, cancelOut(1, 7, "c3"), newOut(1, 8, "c6", "X", api.Buy, 10, 1000))
}
