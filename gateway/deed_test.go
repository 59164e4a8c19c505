package gateway_test

import (
	"testing"

	"spigot/api"
)

// standing is a way to bring the parent p of the account B to a state, and its own status there.
type standing struct {
	state, status int
	out           bool // whether c1, of the venue V, is out
	bring         func(t *testing.T) *pair
}

// working has c1 of 10 out.
func working(t *testing.T) *pair {
	t.Helper()
	x := begun(t, setup(), order("p"))
	x.want(x.tick(), api.OK, newOut(1, 1, "c1", "X", api.Buy, 10, 1000))
	return x
}

// standings are all states; each time the tick is 1, unless nothing was ever out.
func standings() []standing {
	behind := func(do func(x *pair) []answer) func(t *testing.T) *pair {
		return func(t *testing.T) *pair {
			t.Helper()
			x := working(t)
			x.done(do(x)...)
			return x
		}
	}
	return []standing{
		{api.PWorking, 0, false, func(t *testing.T) *pair { return begun(t, setup(), order("p")) }},
		{api.PWorking, 0, true, working},
		{api.PWorking, 1, true, behind(func(x *pair) []answer { return []answer{x.say("V", trades("c1", "e1", 4, 1000))} })},
		{api.PPaused, 9, true, behind(func(x *pair) []answer { return []answer{x.ask(pauseOf("p"))} })},
		{api.PPaused, 9, true, behind(func(x *pair) []answer { return []answer{x.say("V", trades("c1", "e1", 4, 1000)), x.ask(pauseOf("p"))} })},
		{api.PHalted, 9, true, behind(func(x *pair) []answer {
			return []answer{x.say("V", trades("c1", "e1", 1, 1000)), x.say("V", trades("c1", "e2", 1, 1000)), x.say("V", trades("c1", "e3", 1, 1000)), x.say("V", trades("c1", "e4", 1, 1000))}
		})},
		{api.PEnding, 6, true, behind(func(x *pair) []answer { return []answer{x.ask(cancelOf("p"))} })},
		{api.PFilled, 2, false, func(t *testing.T) *pair {
			a := iceberg("p")
			a.Qty = 20
			x := begun(t, setup(), a)
			x.done(x.tick(), x.say("V", trades("c1", "e1", 20, 1000)))
			return x
		}},
		{api.PCanceled, 4, false, behind(func(x *pair) []answer {
			return []answer{x.say("V", trades("c1", "e1", 4, 1000)), x.say("V", says(api.ReplyCanceled, "c1", "a")), x.ask(cancelOf("p"))}
		})},
	}
}

// eachStanding tries something in each of the states.
func eachStanding(t *testing.T, try func(x *pair, s standing)) {
	t.Helper()
	for _, s := range standings() {
		x := s.bring(t)
		x.wantState("p", s.state)
		if got := own(x.parent("p")); got != s.status {
			t.Fatalf("the status %d, not %d", got, s.status)
		}
		try(x, s)
	}
}

// asksOf are one of each kind that is about a parent.
func asksOf(id string) []api.Ask {
	return []api.Ask{cancelOf(id), pauseOf(id), resumeOf(id), amendOf(id, 200, 1005, 20)}
}

// P29.4: the others of an ID that there isn't, be it killed or not: the status 8 and the ask's own ID.
func TestAskOfNoParent(t *testing.T) {
	for _, kill := range []bool{false, true} {
		x := begun(t, setup(), order("p"))
		bad := order("bad")
		bad.Qty = 7
		x.want(x.ask(bad), api.ErrLot, notTaken(2, "bad", api.ErrLot))
		x.ticks(1)
		if kill {
			x.done(x.kill())
		}
		for _, id := range []string{"q", "P", "p1", "z", "c1", "x1", "bad", "A", "X"} {
			for _, a := range asksOf(id) {
				a.ID = "ask"
				x.want(x.ask(a), api.ErrUnknown, "0 35=9|11=ask|39=8|103=42|")
			}
		}
		// None of these was a report.
		x.done(x.ask(cancelOf("p")))
		if x.m.reports != 3 {
			t.Errorf("%d reports", x.m.reports)
		}
	}
}

// P29.4: each of the others in each of a parent's states: the report's status, or the error and the parent's own status.
func TestAskInEachState(t *testing.T) {
	for kind := range 4 {
		eachStanding(t, func(x *pair, s standing) {
			a := asksOf("p")[kind]
			a.ID = "ask"
			n, p := x.m.reports, x.parent("p")
			leaves := p.Qty - p.Filled
			goesOn := s.state <= api.PHalted
			switch {
			case s.state > api.PEnding:
				x.want(x.ask(a), api.ErrDone, notDone("ask", s.status, api.ErrDone))
			case a.Kind == api.AskCancel && goesOn && s.out:
				x.want(x.ask(a), api.OK, stands(n+1, "p", 6, p.Filled, leaves))
				x.wantState("p", api.PEnding)
			case a.Kind == api.AskCancel && goesOn:
				x.want(x.ask(a), api.OK, stands(n+1, "p", 6, p.Filled, 0), stands(n+2, "p", 4, p.Filled, 0))
				x.wantState("p", api.PCanceled)
			case a.Kind == api.AskPause && s.state == api.PWorking:
				x.want(x.ask(a), api.OK, stands(n+1, "p", 9, p.Filled, leaves))
				x.wantState("p", api.PPaused)
			case a.Kind == api.AskResume && goesOn && s.state != api.PWorking:
				status := min(p.Filled, 1)
				x.want(x.ask(a), api.OK, stands(n+1, "p", status, p.Filled, leaves))
				x.wantState("p", api.PWorking)
			case a.Kind == api.AskAmend && goesOn:
				x.want(x.ask(a), api.OK, stands(n+1, "p", 5, p.Filled, 200-p.Filled))
				x.wantState("p", s.state)
			default:
				x.want(x.ask(a), api.ErrState, notDone("ask", s.status, api.ErrState))
			}
		})
	}
}

// P29.4: what stands in a TellCancel, and in reports of each kind, to the byte.
func TestTellsOfAsks(t *testing.T) {
	x := working(t)
	x.want(x.say("V", trades("c1", "e1", 4, 995)), api.OK, "0 35=8|11=p|17=x2|39=1|32=4|31=995|14=4|151=96|103=0|")
	x.want(x.ask(resumeOf("p")), api.ErrState, "0 35=9|11=z|39=1|103=200|")
	x.want(x.ask(pauseOf("p")), api.OK, "0 35=8|11=p|17=x3|39=9|32=0|31=0|14=4|151=96|103=0|")
	x.want(x.ask(pauseOf("p")), api.ErrState, "0 35=9|11=z|39=9|103=200|")
	x.want(x.ask(amendOf("p", 200, 1000, 10)), api.OK, "0 35=8|11=p|17=x4|39=5|32=0|31=0|14=4|151=196|103=0|")
	x.want(x.ask(resumeOf("p")), api.OK, "0 35=8|11=p|17=x5|39=1|32=0|31=0|14=4|151=196|103=0|")
	x.want(x.ask(cancelOf("p")), api.OK, "0 35=8|11=p|17=x6|39=6|32=0|31=0|14=4|151=196|103=0|")
	x.want(x.ask(cancelOf("p")), api.ErrState, "0 35=9|11=z|39=6|103=200|")
	x.want(x.say("V", says(api.ReplyCanceled, "c1", "a")), api.OK, "0 35=8|11=p|17=x7|39=4|32=0|31=0|14=4|151=0|103=0|")
	x.want(x.ask(cancelOf("p")), api.ErrDone, "0 35=9|11=z|39=4|103=281|")
}

// P29.4: while killed nothing is resumed, whatever its state is, unless it is done; all else may be asked.
func TestResumeWhileKilled(t *testing.T) {
	eachStanding(t, func(x *pair, s standing) {
		x.done(x.kill())
		if s.state > api.PEnding {
			x.want(x.ask(resumeOf("p")), api.ErrDone, notDone("z", s.status, api.ErrDone))
			return
		}
		x.want(x.ask(resumeOf("p")), api.ErrKilled, notDone("z", s.status, api.ErrKilled))
		x.wantState("p", s.state)
		x.done(x.resume())
		if s.state == api.PPaused || s.state == api.PHalted {
			x.done(x.ask(resumeOf("p")))
			x.wantState("p", api.PWorking)
		}
		x.done(x.kill())
		if s.state != api.PEnding {
			x.done(x.ask(amendOf("p", 150, 1000, 10)), x.ask(cancelOf("p")))
		}
	})
}

// P29.4: AskAmend with each of Would's errors changes nothing; the chapter's order of errors is layer 28's.
func TestAmendRefused(t *testing.T) {
	x := begun(t, setup(), order("p"))
	x.ticks(3)
	x.done(x.say("V", trades("c1", "e1", 10, 1000)), x.say("V", trades("c2", "e2", 10, 995)), x.say("V", busts("c2", "e3", "e2")))
	for _, c := range []struct {
		qty, price, end int
		e               api.Errno
	}{
		{100, 1000, 10, api.ErrState},
		{105, 1000, 10, api.ErrLot},
		{1010, 1000, 10, api.ErrQty},
		{10, 1000, 10, api.ErrQty},
		{100, 1001, 10, api.ErrTick},
		{100, 1015, 10, api.ErrBand},
		{100, 985, 10, api.ErrBand},
		{100, 1000, 3, api.ErrTime},
		{100, 1000, 0, api.ErrTime},
		{100, 1000, 1<<30 + 1, api.ErrTime},
		{200, 1005, 2, api.ErrTime},
	} {
		x.want(x.ask(amendOf("p", c.qty, c.price, c.end)), c.e, notDone("z", 1, c.e))
	}
	// One tick above the tick, and what is filled and busted already: these may be.
	x.want(x.ask(amendOf("p", 20, 1000, 4)), api.OK, stands(5, "p", 5, 10, 0))
	x.wantState("p", api.PWorking)
}

// P29.4: an amendment's worth is looked at, too.
func TestAmendTooMuchWorth(t *testing.T) {
	s := setup()
	s.Symbols[0].Worth = 150000
	x := begun(t, s, order("p"))
	x.want(x.ask(amendOf("p", 160, 1000, 10)), api.ErrNotional, notDone("z", 0, api.ErrNotional))
	x.want(x.ask(amendOf("p", 150, 1005, 10)), api.ErrNotional, notDone("z", 0, api.ErrNotional))
	x.want(x.ask(amendOf("p", 150, 1000, 10)), api.OK, stands(2, "p", 5, 0, 150))
}

// P29.4: an amendment whose need the book refuses changes nothing, one that needs just what is left may be; each way to a greater need.
func TestAmendAndTheBook(t *testing.T) {
	for _, left := range []int{-1, 0, 1} {
		for _, c := range []struct{ qty, price, need int }{{200, 1000, 200000}, {100, 1010, 101000}, {150, 1005, 150750}} {
			s := setup()
			s.Accounts[1].Limit = 100000 + c.need + left
			x := begun(t, s, order("q"), order("p"))
			x.ticks(1)
			if left < 0 {
				x.want(x.ask(amendOf("p", c.qty, c.price, 20)), api.ErrLimit, notDone("z", 0, api.ErrLimit))
				x.wantBook(1, 200000, 0, 100000, 100000)
				if p := x.parent("p"); p.Qty != 100 || p.Price != 1000 || p.End != 10 || p.Most != 100 {
					t.Errorf("%+v", p)
				}
				continue
			}
			x.want(x.ask(amendOf("p", c.qty, c.price, 20)), api.OK, stands(3, "p", 5, 0, c.qty))
			x.wantBook(1, 100000+c.need, 0, 100000, c.need)
		}
	}
}

// P29.4: what an amendment makes of the reservation: less, more, the same; with what is out and what was filled.
func TestAmendsReservation(t *testing.T) {
	x := begun(t, setup(), order("p"))
	x.ticks(2)
	x.done(x.say("V", trades("c1", "e1", 10, 990)), x.say("V", acks("c2")))
	x.wantBook(1, 100000, 0, 100000)
	for i, c := range []struct{ qty, price, end, need int }{
		{100, 1000, 20, 9900 + 90000},
		{50, 1000, 20, 9900 + 40000},
		{50, 990, 20, 9900 + 10000 + 30*990},
		{300, 1010, 20, 9900 + 290*1010},
		{20, 1000, 30, 9900 + 10000},
	} {
		x.want(x.ask(amendOf("p", c.qty, c.price, c.end)), api.OK, stands(3+i, "p", 5, 10, c.qty-10))
		x.wantBook(1, c.need, 0, c.need)
		if p := x.parent("p"); p.Qty != c.qty || p.Price != c.price || p.End != c.end || p.Need != c.need {
			t.Fatalf("%+v", p)
		}
	}
	x.wantBook(0, 0, 0, 19900)
}

// P29.4: an amendment that finishes the parent settles it, filled or with something busted.
func TestAmendFinishes(t *testing.T) {
	x := begun(t, setup(), order("q"), order("p"))
	x.ticks(1)
	x.done(x.say("V", trades("c2", "e1", 10, 995)))
	x.want(x.ask(amendOf("p", 10, 1000, 10)), api.OK, stands(4, "p", 5, 10, 0), stands(5, "p", 2, 10, 0))
	x.wantBook(1, 109950, 9950, 100000, 0)
	y := begun(t, setup(), order("q"), order("p"))
	y.ticks(1)
	y.done(y.say("V", trades("c2", "e1", 6, 995)), y.say("V", busts("c2", "e2", "e1")), y.say("V", trades("c2", "e3", 4, 1000)))
	y.want(y.ask(amendOf("p", 10, 1000, 10)), api.OK, stands(6, "p", 5, 4, 0), stands(7, "p", 4, 4, 0))
	y.wantBook(1, 104000, 4000, 100000, 0)
	y.want(y.ask(amendOf("p", 10, 1000, 10)), api.ErrDone, notDone("z", 4, api.ErrDone))
	// With something out that isn't done it goes on.
	z := begun(t, setup(), order("p"))
	z.ticks(2)
	z.done(z.say("V", trades("c2", "e1", 10, 995)))
	z.want(z.ask(amendOf("p", 10, 1000, 10)), api.OK, stands(3, "p", 5, 10, 0))
	z.want(z.tick(), api.OK, cancelOut(1, 3, "c1"))
	z.want(z.say("V", says(api.ReplyCanceled, "c1", "a")), api.OK, stands(4, "p", 2, 10, 0))
	z.wantBook(1, 9950, 9950, 0)
}

// P29.4: what was amended is what is worked by.
func TestAmendedIsWorked(t *testing.T) {
	x := begun(t, setup(), order("p"), order("q"))
	x.ticks(1)
	x.done(x.ask(amendOf("q", 200, 1010, 5)), x.say("V", acks("c2")))
	x.want(x.tick(), api.OK, newOut(1, 3, "c3", "X", api.Buy, 10, 1000), replaceOut(1, 4, "c2", 10, 1010), newOut(1, 5, "c4", "X", api.Buy, 70, 1010))
	x.ticks(2)
	x.want(x.tick(), api.OK, newOut(1, 10, "c9", "X", api.Buy, 10, 1000), cancelOut(1, 11, "c4"), cancelOut(1, 12, "c6"), cancelOut(1, 13, "c8"))
}

// P29.4: a cancel of a parent of which something is out, and of one of which nothing is; another one's is left alone.
func TestCancel(t *testing.T) {
	x := begun(t, setup(), order("p"), order("q"))
	x.want(x.ask(cancelOf("p")), api.OK, stands(3, "p", 6, 0, 0), stands(4, "p", 4, 0, 0))
	x.wantBook(1, 100000, 0, 0, 100000)
	x.ticks(1)
	x.want(x.ask(cancelOf("q")), api.OK, stands(5, "q", 6, 0, 100))
	x.wantBook(1, 100000, 0, 0, 100000)
	x.want(x.tick(), api.OK, cancelOut(1, 2, "c1"))
	x.want(x.say("V", trades("c1", "e", 10, 1000)), api.OK, report(6, "q", 1, 10, 1000, 10, 0, 0), stands(7, "q", 4, 10, 0))
	x.wantBook(1, 10000, 10000, 0, 0)
}
