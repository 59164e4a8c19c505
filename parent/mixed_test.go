package parent_test

import (
	"math/rand/v2"
	"strconv"
	"testing"

	"spigot/api"
	"spigot/router"
)

// some is one of a list.
func some[T any](r *rand.Rand, list ...T) T {
	return list[r.IntN(len(list))]
}

// rarely is one of a list once in n times, else the number.
func rarely(r *rand.Rand, n, number int, list ...int) int {
	if r.IntN(n) == 0 {
		return some(r, list...)
	}
	return number
}

// someSetup has three venues with lots of their own, of which the first and the third replace.
func someSetup(r *rand.Rand) api.Setup {
	u := setup()
	u.Symbols[1].Lot = some(r, 1, 5, 10)
	u.Symbols[1].Width = some(r, 100, 200, 1000)
	u.Venues = append(u.Venues, api.Venue{Name: "U", Lot: 1, Replaces: true})
	u.Window, u.Most, u.Repeat = some(r, 1, 2, 3, 5, 8), some(r, 1, 2, 3, 4, 6, 9, 1024), some(r, 2, 3, 4, 9)
	return u
}

// someOffers are of the venues, mostly; now and then of others, wrong, or too many.
func someOffers(r *rand.Rand) []router.Offer {
	list := make([]router.Offer, 0, 12)
	for range r.IntN(4) + r.IntN(2)*r.IntN(9) {
		o := router.Offer{Place: rarely(r, 12, r.IntN(3), leastInt, -1, 3, 8, greatestInt), Lot: some(r, 1, 5, 10, 20), Fee: r.IntN(3), Shown: r.IntN(60), Healthy: r.IntN(8) > 0}
		if r.IntN(80) == 0 {
			o.Lot = 0
		}
		list = append(list, o)
	}
	return list
}

// someAsk is an order of up to 40 lots, of any algorithm.
func someAsk(r *rand.Rand, s api.Symbol) api.Ask {
	a := algos(some(r, api.Buy, api.Sell))[r.IntN(4)]
	a.Qty, a.Price = s.Lot*(1+r.IntN(40)), 990+5*r.IntN(5)
	a.Start = r.IntN(6)
	a.End = a.Start + 1 + r.IntN(60)
	switch a.Algo {
	case api.Vwap:
		a.Curve = []int{r.IntN(4), r.IntN(4), 1 + r.IntN(4), r.IntN(4)}
	case api.Flow:
		a.Rate = 1 + r.IntN(10000)
	case api.Berg:
		a.Show = 1 + r.IntN(a.Qty)
	}
	return a
}

// run is a pair as time goes by and the market trades.
type run struct {
	*pair
	r           *rand.Rand
	now, volume int
	next        int // the next child's number
	met         map[string]int
}

func (x *run) note(call string, e api.Errno) {
	x.met[call+" "+strconv.Itoa(int(e))]++
}

// tick goes on by some ticks, mostly by one, or by none.
func (x *run) tick() {
	x.now += some(x.r, 0, 1, 1, 1, 2)
	x.volume += x.r.IntN(40)
	k := tick{
		now: rarely(x.r, 30, x.now, leastInt, -1, 0, x.now-1, mostTime+1, greatestInt), volume: rarely(x.r, 20, x.volume, leastInt, -1, 0, mostLimit, mostLimit+1, greatestInt),
		killed: x.r.IntN(15) == 0, first: rarely(x.r, 20, x.next, leastInt, -1, mostTime+1, greatestInt), room: rarely(x.r, 6, 256, -1, 0, 1, 2, greatestInt), offers: someOffers(x.r),
	}
	before := x.p.Status().State
	for _, m := range x.work(k) {
		x.met["move "+strconv.Itoa(m.Kind)]++
		if m.Kind == api.OrderNew {
			x.next++
		}
	}
	if after := x.p.Status().State; after != before {
		x.met["end of "+strconv.Itoa(before)]++
	}
}

// child is one that is open, mostly.
func (x *run) child() *plainChild {
	if len(x.m.children) == 0 {
		return &plainChild{Child: api.Child{ID: "c1", Qty: 10, Price: 1000}}
	}
	c := some(x.r, x.m.children...)
	for range 5 {
		if c.open() {
			break
		}
		c = some(x.r, x.m.children...)
	}
	return c
}

// answer is a reply that mostly may be.
func (x *run) answer() {
	c := x.child()
	place := rarely(x.r, 40, c.place, leastInt, -1, 0, 1, 2, 3, greatestInt)
	kind := some(x.r, api.ReplyNew, api.ReplyRejected, api.ReplyRefused, api.ReplyReplaced, api.ReplyCanceled, api.ReplyBust)
	switch {
	case c.State == api.SPending && x.r.IntN(4) > 0:
		kind = api.ReplyNew
	case c.State == api.SCanceling && x.r.IntN(4) > 0:
		kind = some(x.r, api.ReplyRefused, api.ReplyRefused, api.ReplyCanceled, api.ReplyCanceled, api.ReplyRejected)
	case c.State == api.SReplacing && x.r.IntN(4) > 0:
		kind = some(x.r, api.ReplyRefused, api.ReplyReplaced)
	case x.r.IntN(3) > 0:
		x.execution(c, place)
		return
	}
	r := says(kind, c.ID)
	if x.r.IntN(40) == 0 {
		r.Seq = 0
	}
	x.note("Reply", x.reply(place, r))
}

// execution is a trade, now and then the same as the last one, about the child's limit and its claim.
func (x *run) execution(c *plainChild, place int) {
	qty := some(x.r, 1, 1, 2, 5, max(c.claim()/2, 1), max(c.claim(), 1), c.claim()+1)
	price := some(x.r, c.prices()...)
	if x.m.a.Side == api.Buy {
		price += some(x.r, 0, 0, 0, -1, -5, 1)
	} else {
		price += some(x.r, 0, 0, 0, 1, 5, -1)
	}
	if n := len(x.m.executions); n > 0 && x.r.IntN(3) == 0 {
		qty, price = x.m.executions[n-1][1], x.m.executions[n-1][2]
	}
	x.note("Trade", x.reply(place, traded(c.ID, qty, rarely(x.r, 30, price, 1, x.m.high(), x.m.high()+1, mostPrice))))
}

// takeBack is a bust that mostly may be.
func (x *run) takeBack() {
	c := x.child()
	if n := len(x.m.children); n > 0 && x.r.IntN(2) == 0 {
		c = x.m.children[x.r.IntN(n)]
	}
	qty := rarely(x.r, 8, 1+x.r.IntN(max(c.Cum, 1)), leastInt, -1, 0, x.m.filled, x.m.filled+1, greatestInt)
	price := rarely(x.r, 8, c.Price-x.r.IntN(12), leastInt, 0, 1, mostPrice, mostPrice+1, greatestInt)
	x.note("Bust", x.bust(rarely(x.r, 20, c.place, -1, 0, 1, 2, 3), c.ID, qty, price))
}

// change is an amendment that mostly may be.
func (x *run) change() {
	a, lot := x.m.a, x.m.s.Lot
	qty := rarely(x.r, 10, max(lot, a.Qty+lot*(x.r.IntN(21)-10)), leastInt, 0, lot-1, 1000, 1010, greatestInt)
	if x.r.IntN(4) == 0 {
		qty = (x.m.filled + x.m.busted) / lot * lot
	}
	price := rarely(x.r, 10, 990+5*x.r.IntN(5), leastInt, 0, 985, 1003, 1200, greatestInt)
	end := rarely(x.r, 6, x.now+1+x.r.IntN(60), leastInt, -1, 0, a.Start, x.now, x.now+1, a.Start+longest, a.Start+longest+1, mostTime+1, greatestInt)
	if x.r.IntN(8) == 0 {
		qty, price, end = a.Qty, a.Price, a.End
	}
	x.note("Amend", x.amend(qty, price, end, x.now))
}

func (x *run) step() {
	switch n := x.r.IntN(100); {
	case n < 35 || len(x.m.children) == 0 && n < 80:
		x.tick()
	case n < 82:
		x.answer()
	case n < 88:
		x.change()
	case n < 93:
		x.takeBack()
	case n < 95:
		x.note("Pause", x.pause())
	case n < 98 || x.r.IntN(4) > 0:
		x.note("Resume", x.resume())
	default:
		x.note("End", x.end())
	}
}

// P28.1 to P28.8: runs by chance, wrong calls among them, each call held against the chapter's words, and P28.8 behind each.
func TestByChance(t *testing.T) {
	met := map[string]int{}
	for i := range 1500 {
		r := rand.New(rand.NewPCG(28, uint64(i)))
		u := someSetup(r)
		x := &run{newPair(t, someAsk(r, u.Symbols[1]), u.Symbols[1], u, 5), r, 0, 5, 1, met}
		behind := 0
		for range 250 {
			x.step()
			met["state "+strconv.Itoa(x.m.state)]++
			if !x.m.open() {
				behind++
			}
			if behind > 20 {
				break
			}
		}
	}
	for _, call := range []string{
		"Pause 0", "Pause 200", "Resume 0", "Resume 200", "End 0", "End 200",
		"Amend 0", "Amend 20", "Amend 21", "Amend 22", "Amend 160", "Amend 200", "Amend 282", "Reply 0", "Reply 2", "Reply 42", "Reply 200",
		"Trade 0", "Trade 3", "Trade 22", "Trade 42", "Trade 200", "Bust 0", "Bust 2", "Bust 42", "Bust 200", "move 1", "move 2", "move 3",
		"end of 1", "end of 2", "end of 3", "state 1", "state 2", "state 3", "state 4", "state 5", "state 6",
	} {
		if met[call] < 20 {
			t.Errorf("%s was met %d times only", call, met[call])
		}
	}
}

// P28.8 and W10: with venues that answer each request at the next tick each algorithm comes to its end filled, on either side, whatever the window is; and never is more out than its goal.
func TestComesToItsEnd(t *testing.T) {
	for _, side := range []int{api.Buy, api.Sell} {
		for _, a := range algos(side) {
			for _, most := range []int{1, 2, 5} {
				a.Side, a.End = side, 200
				x := newPair(t, a, symbolX(), narrow(3, most), 0)
				for now := 0; x.p.Open() && now < 200; now++ {
					k := at(now, now+1, v(), w())
					k.volume = 10 * now
					x.work(k)
					for _, c := range x.p.Status().Children {
						if c.State == api.SPending {
							x.ok(x.reply(0, traded(c.ID, c.Qty-1, c.Price)), x.reply(0, traded(c.ID, 1, c.Price)))
						}
					}
				}
				if a.Algo != api.Twap && a.Algo != api.Vwap {
					x.wantState(api.PFilled)
				}
				if s := x.p.Status(); s.Filled < 90 || s.Claims != 0 || s.Busted != 0 {
					t.Errorf("%+v", s)
				}
			}
		}
	}
}

// P28.8: a parent that is ended comes to its end by what venues answer, however narrow the window is, and then nothing is claimed.
func TestEnds(t *testing.T) {
	for i := range 300 {
		r := rand.New(rand.NewPCG(2828, uint64(i)))
		u := someSetup(r)
		x := &run{newPair(t, someAsk(r, u.Symbols[1]), u.Symbols[1], u, 5), r, 0, 5, 1, map[string]int{}}
		for range 60 {
			x.step()
		}
		x.end()
		for range 400 {
			x.now++
			x.work(at(x.now, x.next))
			for _, c := range x.m.children {
				if c.State == api.SCanceling || c.State == api.SReplacing {
					x.ok(x.reply(c.place, says(some(r, api.ReplyCanceled, api.ReplyCanceled, api.ReplyRefused), c.ID)))
				}
			}
		}
		if s := x.p.Status(); x.p.Open() || s.Claims != 0 {
			t.Fatalf("it doesn't end: %+v", s)
		}
	}
}
