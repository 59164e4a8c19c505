package parent_test

import (
	"reflect"
	"slices"
	"testing"

	"spigot/api"
	"spigot/parent"
	"spigot/router"
)

const (
	leastInt    = -1 << 63
	greatestInt = 1<<63 - 1
)

// The document's limits, in numbers.
const (
	mostPrice = 1 << 40
	mostTime  = 1 << 40
	longest   = 1 << 30
	mostLimit = 1 << 62
)

// setup has the venue V, which replaces, and W, which doesn't; the window lets through whatever is wanted.
func setup() api.Setup {
	return api.Setup{
		Accounts: []api.Account{{Name: "A", Limit: 1000000}},
		Symbols: []api.Symbol{
			{Name: "Y", Lot: 1, Tick: 1, Middle: 100, Width: 9000, Most: 1 << 40, Worth: 1 << 62},
			{Name: "X", Lot: 10, Tick: 5, Middle: 1000, Width: 100, Most: 1000, Worth: 1000000},
		},
		Venues: []api.Venue{
			{Name: "V", Lot: 10, Fee: 1, Shown: 1000, Replaces: true},
			{Name: "W", Lot: 10, Fee: 2, Shown: 1000},
		},
		Parents: 2, Children: 8, Execs: 50, Window: 1, Most: 1024, Repeat: 4,
	}
}

// x is the symbol of most orders here: its band is from 990 to 1010.
func symbolX() api.Symbol { return setup().Symbols[1] }

// narrow is the setup with a window of its own.
func narrow(width, most int) api.Setup {
	t := setup()
	t.Window, t.Most = width, most
	return t
}

// order is of 100 of X at 1000, evenly from 0 to 10: 10 more at each tick.
func order(side int) api.Ask {
	return api.Ask{Kind: api.AskNew, ID: "p", Account: "A", Symbol: "X", Side: side, Qty: 100, Price: 1000, Algo: api.Twap, End: 10}
}

// v and w are what the venues offer.
func v() router.Offer { return router.Offer{Place: 0, Lot: 10, Fee: 1, Shown: 1000, Healthy: true} }

func w() router.Offer { return router.Offer{Place: 1, Lot: 10, Fee: 2, Shown: 1000, Healthy: true} }

// tick is what Work is handed.
type tick struct {
	now, volume int
	killed      bool
	first, room int
	offers      []router.Offer
}

// at is a tick at which there is room for all, V offers, and the next child has the name of its number.
func at(now, first int, offers ...router.Offer) tick {
	if offers == nil {
		offers = []router.Offer{v()}
	}
	return tick{now: now, first: first, room: 256, offers: offers}
}

// killed is a tick of a gateway that is killed.
func killed(now int) tick {
	k := at(now, 100)
	k.killed = true
	return k
}

func newMove(place int, id string, qty, price int) api.Move {
	return api.Move{Kind: api.OrderNew, Place: place, ID: id, Qty: qty, Price: price}
}

func cancelMove(place int, id string) api.Move {
	return api.Move{Kind: api.OrderCancel, Place: place, ID: id}
}

func replaceMove(place int, id string, qty, price int) api.Move {
	return api.Move{Kind: api.OrderReplace, Place: place, ID: id, Qty: qty, Price: price}
}

// says is a right reply of a kind.
func says(kind int, id string) api.Reply {
	r := api.Reply{Kind: kind, Seq: 1, ID: id, Exec: "e"}
	if kind == api.ReplyRefused {
		r.Exec = ""
	}
	return r
}

func traded(id string, qty, price int) api.Reply {
	r := says(api.ReplyTrade, id)
	r.Qty, r.Price = qty, price
	return r
}

// pair is a parent and the plain one beside it, which are handed the same: whatever is told must be the same.
type pair struct {
	t     *testing.T
	p     *parent.Parent
	m     *plain
	need  int   // what was told last
	moved []int // the ticks of what it moved
}

func newPair(t *testing.T, a api.Ask, s api.Symbol, u api.Setup, volume int) *pair {
	t.Helper()
	p, e := parent.New(a, s, u, volume)
	if p == nil || e != api.OK {
		t.Fatalf("New(%+v, %+v, %+v, %d): %v, %d", a, s, u, volume, p, e)
	}
	x := &pair{t: t, p: p, m: newPlain(a, s, u, volume)}
	x.need = p.Need()
	x.look()
	return x
}

// buys and sells are of 100 at 1000.
func buys(t *testing.T) *pair {
	t.Helper()
	return newPair(t, order(api.Buy), symbolX(), setup(), 0)
}

func sells(t *testing.T) *pair {
	t.Helper()
	return newPair(t, order(api.Sell), symbolX(), setup(), 0)
}

// same holds two statuses against each other; no children are as good as nil.
func same(a, b api.Parent) bool {
	equal := slices.Equal(a.Children, b.Children)
	a.Children, b.Children = nil, nil
	return equal && reflect.DeepEqual(a, b)
}

// look asks for all that is told, twice, as being asked changes nothing; and holds P28.8 against it.
func (x *pair) look() {
	x.t.Helper()
	want := x.m.status()
	for range 2 {
		if got := x.p.Status(); !same(got, want) {
			x.t.Fatalf("Status: %+v\nthe document asks for %+v", got, want)
		}
		if x.p.Open() != x.m.open() || x.p.Need() != want.Need {
			x.t.Fatalf("Open %t, Need %d of %+v", x.p.Open(), x.p.Need(), want)
		}
	}
	switch s := x.p.Status(); {
	case s.Filled+s.Busted+s.Claims > s.Most:
		x.t.Fatalf("more is committed than it ever had: %+v", s)
	case s.Need > x.need:
		x.t.Fatalf("the need grew from %d: %+v", x.need, s)
	default:
		x.need = s.Need
	}
}

// behind looks at what a call has answered, and at how both stand behind it.
func (x *pair) behind(before api.Parent, call string, got, want api.Errno) api.Errno {
	x.t.Helper()
	if got != want {
		x.t.Fatalf("%s of %+v: %d; the document asks for %d", call, before, got, want)
	}
	if got != api.OK && !same(before, x.p.Status()) {
		x.t.Fatalf("%s of %+v was refused; then it is %+v", call, before, x.p.Status())
	}
	x.look()
	return got
}

func (x *pair) pause() api.Errno {
	x.t.Helper()
	return x.behind(x.p.Status(), "Pause", x.p.Pause(), x.m.pause())
}

func (x *pair) resume() api.Errno {
	x.t.Helper()
	return x.behind(x.p.Status(), "Resume", x.p.Resume(), x.m.resume())
}

func (x *pair) end() api.Errno {
	x.t.Helper()
	return x.behind(x.p.Status(), "End", x.p.End(), x.m.end())
}

// would asks both, which changes neither.
func (x *pair) would(qty, price, end, now int) (int, api.Errno) {
	x.t.Helper()
	before := x.p.Status()
	want, wantE := x.m.would(qty, price, end, now)
	need, e := x.p.Would(qty, price, end, now)
	if need != want || e != wantE {
		x.t.Fatalf("Would(%d, %d, %d, %d) of %+v: %d, %d; the document asks for %d, %d", qty, price, end, now, before, need, e, want, wantE)
	}
	if !same(before, x.p.Status()) {
		x.t.Fatalf("Would(%d, %d, %d, %d) of %+v: then it is %+v", qty, price, end, now, before, x.p.Status())
	}
	x.look()
	return need, e
}

// amend amends both: its need is what Would told just before.
func (x *pair) amend(qty, price, end, now int) api.Errno {
	x.t.Helper()
	need, e := x.would(qty, price, end, now)
	before := x.p.Status()
	if e == api.OK {
		x.need = need
	}
	got := x.behind(before, "Amend", x.p.Amend(qty, price, end, now), x.m.amend(qty, price, end, now))
	if got != e || got == api.OK && x.p.Need() != need {
		x.t.Fatalf("Amend(%d, %d, %d, %d) of %+v: %d, and the need is %d, where Would told %d, %d", qty, price, end, now, before, got, x.p.Need(), need, e)
	}
	return got
}

func (x *pair) reply(place int, r api.Reply) api.Errno {
	x.t.Helper()
	return x.behind(x.p.Status(), "Reply", x.p.Reply(place, r), x.m.reply(place, r))
}

func (x *pair) bust(place int, id string, qty, price int) api.Errno {
	x.t.Helper()
	return x.behind(x.p.Status(), "Bust", x.p.Bust(place, id, qty, price), x.m.bust(place, id, qty, price))
}

// work lets both work, and holds P28.8 against what is moved.
func (x *pair) work(k tick) []api.Move {
	x.t.Helper()
	before, room := x.p.Status(), slices.Clone(k.offers[:cap(k.offers)])
	want := x.m.work(k.now, k.volume, k.killed, k.first, k.room, k.offers)
	got := x.p.Work(k.now, k.volume, k.killed, k.first, k.room, k.offers)
	if !slices.Equal(got, want) {
		x.t.Fatalf("Work(%+v) of %+v:\n%+v; the document asks for\n%+v", k, before, got, want)
	}
	if !slices.Equal(k.offers[:cap(k.offers)], room) {
		x.t.Fatalf("Work changed the offers that were handed in")
	}
	for _, m := range got {
		if m.Kind == api.OrderNew && (before.State != api.PWorking || k.killed) || x.m.newOverGoal {
			x.t.Fatalf("Work(%+v) of %+v: %+v", k, before, got)
		}
		x.moved = append(x.moved, k.now)
	}
	x.look()
	x.stretch()
	return got
}

// stretch looks that no stretch of ticks that ends with the last move has more than it may.
func (x *pair) stretch() {
	x.t.Helper()
	n := 0
	for _, at := range x.moved {
		if at > x.moved[len(x.moved)-1]-x.m.t.Window {
			n++
		}
	}
	if n > x.m.t.Most || !slices.IsSorted(x.moved) {
		x.t.Fatalf("moves at %v, of the window of %d in %d", x.moved, x.m.t.Most, x.m.t.Window)
	}
}

// want asks for the error of a call.
func (x *pair) want(got, want api.Errno) {
	x.t.Helper()
	if got != want {
		x.t.Fatalf("%d; asked for %d, of %+v", got, want, x.p.Status())
	}
}

// ok asks for calls without an error.
func (x *pair) ok(got ...api.Errno) {
	x.t.Helper()
	for _, e := range got {
		x.want(e, api.OK)
	}
}

// wantWork asks for what is moved beside.
func (x *pair) wantWork(k tick, want ...api.Move) {
	x.t.Helper()
	if got := x.work(k); !slices.Equal(got, want) {
		x.t.Fatalf("Work(%+v): %+v; asked for %+v, of %+v", k, got, want, x.p.Status())
	}
}

func (x *pair) wantState(state int) {
	x.t.Helper()
	if got := x.p.Status().State; got != state || x.p.Open() != (state <= 4) {
		x.t.Fatalf("the state %d, open %t; asked for %d", got, x.p.Open(), state)
	}
}

// wantSums asks for what was filled, what that is worth, what was busted, what is claimed, and the need.
func (x *pair) wantSums(filled, worth, busted, claims, need int) {
	x.t.Helper()
	s := x.p.Status()
	if s.Filled != filled || s.Worth != worth || s.Busted != busted || s.Claims != claims || s.Need != need || x.p.Need() != need {
		x.t.Fatalf("filled %d, worth %d, busted %d, claims %d, need %d; asked for %d, %d, %d, %d, %d", s.Filled, s.Worth, s.Busted, s.Claims, s.Need, filled, worth, busted, claims, need)
	}
}

// wantChild asks for how a child stands.
func (x *pair) wantChild(i, state, qty, price, nextQty, nextPrice, cum, claim int) {
	x.t.Helper()
	c := x.p.Status().Children[i]
	want := api.Child{ID: c.ID, Venue: c.Venue, Side: x.m.a.Side, State: state, Qty: qty, Price: price, NextQty: nextQty, NextPrice: nextPrice, Cum: cum, Claim: claim}
	if c != want {
		x.t.Fatalf("the child %d: %+v; asked for %+v", i, c, want)
	}
}

// out sends n children of 10 to the place of an offer, one at each tick from 1 on: c1, c2 ..
func (x *pair) out(n int, o router.Offer) *pair {
	x.t.Helper()
	for i := range n {
		if m := x.work(at(i+1, i+1, o)); len(m) != 1 || m[0].Kind != api.OrderNew || m[0].Qty != 10 {
			x.t.Fatalf("Work at %d: %v", i+1, m)
		}
	}
	return x
}

// all fills a child by 10, each time at another price, so that no two are the same.
func (x *pair) all(ids ...string) *pair {
	x.t.Helper()
	for i, id := range ids {
		price := x.m.a.Price
		if x.m.a.Side == api.Buy {
			price -= i
		} else {
			price += i
		}
		x.ok(x.reply(0, traded(id, 10, price)))
	}
	return x
}

// standing is a way to bring a parent to a state.
type standing struct {
	state int
	child bool // whether a child is out
	bring func(t *testing.T, side int) *pair
}

func fresh(t *testing.T, side int) *pair {
	t.Helper()
	return newPair(t, order(side), symbolX(), setup(), 0)
}

// halted is halted by four executions of 1, the child c1 having 6 left.
func halted(t *testing.T, side int) *pair {
	t.Helper()
	x := fresh(t, side).out(1, v())
	for range 4 {
		x.ok(x.reply(0, traded("c1", 1, 1000)))
	}
	x.wantState(api.PHalted)
	return x
}

// standings are all states, with and without a child that is out.
func standings() []standing {
	return []standing{
		{api.PWorking, false, fresh},
		{api.PWorking, true, func(t *testing.T, side int) *pair { return fresh(t, side).out(2, v()) }},
		{api.PPaused, false, func(t *testing.T, side int) *pair {
			x := fresh(t, side)
			x.ok(x.pause())
			return x
		}},
		{api.PPaused, true, func(t *testing.T, side int) *pair {
			x := fresh(t, side).out(2, v())
			x.ok(x.pause())
			return x
		}},
		{api.PHalted, true, halted},
		{api.PHalted, false, func(t *testing.T, side int) *pair {
			x := halted(t, side)
			x.ok(x.reply(0, says(api.ReplyCanceled, "c1")))
			return x
		}},
		{api.PEnding, true, func(t *testing.T, side int) *pair {
			x := fresh(t, side).out(2, v())
			x.ok(x.end())
			return x
		}},
		{api.PFilled, false, func(t *testing.T, side int) *pair {
			x := fresh(t, side)
			x.wantWork(at(9, 1), newMove(0, "c1", 90, 1000))
			x.ok(x.reply(0, traded("c1", 90, 1000)))
			x.ok(x.amend(90, 1000, 10, 9))
			return x
		}},
		{api.PCanceled, false, func(t *testing.T, side int) *pair {
			x := fresh(t, side).out(1, v())
			x.ok(x.reply(0, traded("c1", 4, 1000)), x.reply(0, says(api.ReplyCanceled, "c1")), x.end())
			return x
		}},
	}
}

// eachStanding tries something in each of the states, on each side.
func eachStanding(t *testing.T, try func(x *pair, s standing)) {
	t.Helper()
	for _, side := range []int{api.Buy, api.Sell} {
		for _, s := range standings() {
			x := s.bring(t, side)
			x.wantState(s.state)
			try(x, s)
		}
	}
}

// childStates are ways to bring c1, of 10 at the place of an offer, to each of a child's states; the parent goes on working.
func childStates(t *testing.T, side int, o router.Offer) map[int]*pair {
	t.Helper()
	all := map[int]*pair{}
	for state := api.SPending; state <= api.SRejected; state++ {
		x := fresh(t, side).out(1, o)
		switch state {
		case api.SNew:
			x.ok(x.reply(o.Place, says(api.ReplyNew, "c1")))
		case api.SPartial:
			x.ok(x.reply(o.Place, traded("c1", 4, 1000)))
		case api.SCanceling:
			x.wantWork(killed(1), cancelMove(o.Place, "c1"))
		case api.SReplacing:
			if o.Place != 0 {
				continue
			}
			x.ok(x.reply(0, says(api.ReplyNew, "c1")), x.amend(100, 995, 10, 1))
			x.wantWork(at(1, 100), replaceMove(0, "c1", 10, 995))
			x.ok(x.amend(100, 1000, 10, 1))
		case api.SFilled:
			x.ok(x.reply(o.Place, traded("c1", 10, 1000)))
		case api.SCanceled:
			x.ok(x.reply(o.Place, says(api.ReplyCanceled, "c1")))
		case api.SRejected:
			x.ok(x.reply(o.Place, says(api.ReplyRejected, "c1")))
		}
		if got := x.p.Status().Children[0].State; got != state {
			t.Fatalf("the child is in %d, not in %d", got, state)
		}
		x.wantState(api.PWorking)
		all[state] = x
	}
	return all
}

// The chapter's example.
func TestExample(t *testing.T) {
	for _, filled := range []bool{false, true} {
		x := buys(t)
		x.wantWork(at(0, 1))
		x.wantWork(at(1, 1), newMove(0, "c1", 10, 1000))
		if filled {
			x.ok(x.reply(0, traded("c1", 10, 1000)))
		}
		x.wantWork(at(1, 2))
		x.wantWork(at(2, 2), newMove(0, "c2", 10, 1000))
	}
}

// made are parents that New did not make.
func notMade() []*parent.Parent {
	return []*parent.Parent{nil, {}, new(parent.Parent)}
}

// Ahead of P28.1, and rule 1: of a parent that is nil, or that New did not make, ErrNil and nothing else, whatever is asked.
func TestNotMade(t *testing.T) {
	for _, p := range notMade() {
		for range 2 {
			for _, n := range []int{leastInt, -1, 0, 1, 10, 100, 1000, mostTime, greatestInt} {
				for _, e := range []api.Errno{
					p.Pause(), p.Resume(), p.End(), p.Amend(n, 1000, 10, 0), p.Amend(100, 1000, 10, n), p.Amend(n, n, n, n),
					p.Reply(n, traded("c1", 10, 1000)), p.Reply(0, says(api.ReplyNew, "c1")), p.Reply(n, api.Reply{}), p.Reply(0, api.Reply{Kind: n}),
					p.Bust(n, "c1", 1, 1), p.Bust(0, "", n, n), p.Bust(0, "c1", n, 1),
				} {
					if e != api.ErrNil {
						t.Fatalf("%d, not ErrNil", e)
					}
				}
				if need, e := p.Would(n, 1000, n, 0); need != 0 || e != api.ErrNil {
					t.Fatalf("Would: %d, %d", need, e)
				}
				if m := p.Work(n, n, false, n, n, []router.Offer{v()}); len(m) != 0 {
					t.Fatalf("Work: %v", m)
				}
				if m := p.Work(1, 0, true, 1, 9, nil); len(m) != 0 {
					t.Fatalf("Work: %v", m)
				}
			}
			if s := p.Status(); !reflect.DeepEqual(s, api.Parent{}) || p.Open() || p.Need() != 0 {
				t.Fatalf("Status %+v, Open %t, Need %d", s, p.Open(), p.Need())
			}
		}
	}
}
