package audit_test

import (
	"math/rand/v2"
	"strconv"
	"testing"

	"spigot/api"
	"spigot/ask"
	"spigot/audit"
	"spigot/gateway"
	"spigot/post"
	"spigot/wire"
)

// run is a gateway to which things happen by chance, each of which is audited.
type run struct {
	t     *testing.T
	r     *rand.Rand
	s     api.Setup
	g     *gateway.Gateway
	view  api.View
	unit  int // prices are so many times what they are in small
	bulk  int // and quantities
	taken []int
	names int
	seen  []seen
	met   map[string]int
}

// seen is an execution that was taken, of the venue at a place.
type seen struct {
	venue       int
	order, exec string
}

// some is one of a list.
func some[T any](r *rand.Rand, list ...T) T {
	return list[r.IntN(len(list))]
}

// oneIn says yes once in n times.
func (x *run) oneIn(n int) bool { return x.r.IntN(n) == 0 }

func someSetup(r *rand.Rand, unit, bulk int) api.Setup {
	worth := func(n int) int { return min(n, 1<<62/unit/bulk) * unit * bulk }
	s := api.Setup{Parents: 1 + r.IntN(8), Children: 5 + r.IntN(60), Execs: 10 + r.IntN(60), Window: 1 + r.IntN(6), Most: some(r, 1, 2, 4, 1024), Repeat: 2 + r.IntN(4)}
	for i := range 1 + r.IntN(3) {
		s.Accounts = append(s.Accounts, api.Account{Name: string(rune('A' + i)), Limit: worth(some(r, 0, 30000, 150000, 400000, 1<<62))})
	}
	for i := range 1 + r.IntN(3) {
		lot := some(r, 1, 5, 10) * bulk
		s.Symbols = append(s.Symbols, api.Symbol{Name: string(rune('X' - i)), Lot: lot, Tick: some(r, 1, 5) * unit, Middle: 1000 * unit, Width: some(r, 100, 300, 1000), Most: 50 * lot, Worth: worth(some(r, 60000, 1<<62))})
	}
	for i := range 1 + r.IntN(3) {
		s.Venues = append(s.Venues, api.Venue{Name: string(rune('V' - i)), Lot: some(r, 1, 5, 10) * bulk, Fee: r.IntN(3), Shown: 10 * r.IntN(8) * bulk, Replaces: r.IntN(2) == 0})
	}
	return s
}

// begin begins the run of a number.
func begin(t *testing.T, number int, met map[string]int) *run {
	t.Helper()
	r := rand.New(rand.NewPCG(30, uint64(number)))
	ends := some(r, [2]int{1, 1}, [2]int{1, 1}, [2]int{1 << 16, 1 << 20}, [2]int{1 << 28, 1 << 14})
	x := &run{t: t, r: r, unit: ends[0], bulk: ends[1], s: someSetup(r, ends[0], ends[1]), met: met}
	g, e := gateway.New(x.s)
	if e != api.OK {
		t.Fatalf("%+v: %d", x.s, e)
	}
	x.g, x.view, x.taken = g, g.View(), make([]int, len(x.s.Venues))
	if n := audit.Check(x.s, x.view); n != 0 {
		t.Fatalf("nothing happened: rule %d", n)
	}
	return x
}

// happened audits a single thing that happened.
func (x *run) happened(call string, e api.Errno) {
	x.t.Helper()
	x.met[call+" "+strconv.Itoa(int(e))]++
	v := x.g.View()
	if n := audit.Check(x.s, v); n != 0 {
		x.t.Fatalf("%s, %d: Check tells %d (%s):\n%+v\n%+v", call, e, n, audit.Word(n), x.view, v)
	}
	if n := audit.Step(x.s, x.view, v); n != 0 {
		x.t.Fatalf("%s, %d: Step tells %d (%s):\n%+v\n%+v", call, e, n, audit.Word(n), x.view, v)
	}
	x.view = v
}

// sealed is a body as a message.
func (x *run) sealed(body string, e api.Errno) string {
	x.t.Helper()
	bytes, f := wire.Seal(body)
	if e != api.OK || f != api.OK {
		x.t.Fatalf("%q: %d, %d", body, e, f)
	}
	return bytes
}

func (x *run) ask(call string, a api.Ask) {
	x.t.Helper()
	_, e := x.g.Client(x.sealed(ask.Encode(a)))
	x.happened(call, e)
}

// newOrder mostly may be.
func (x *run) newOrder() {
	r := x.r
	s := some(r, x.s.Symbols...)
	x.names++
	a := api.Ask{Kind: api.AskNew, ID: "p" + strconv.Itoa(x.names), Account: some(r, x.s.Accounts...).Name, Symbol: s.Name, Side: some(r, api.Buy, api.Sell), Algo: some(r, api.Twap, api.Vwap, api.Flow, api.Berg)}
	a.Qty, a.Price = s.Lot*(1+r.IntN(20)), (1000+5*(r.IntN(3)-1))*x.unit
	a.Start = max(0, x.view.Now+r.IntN(12)-8)
	a.End = a.Start + 1 + r.IntN(30)
	switch a.Algo {
	case api.Vwap:
		a.Curve = []int{r.IntN(3), 1 + r.IntN(3), r.IntN(3)}
	case api.Flow:
		a.Rate = 1 + r.IntN(10000)
	case api.Berg:
		a.Show = 1 + r.IntN(a.Qty)
	}
	switch r.IntN(60) {
	case 0:
		a.Account = "Z"
	case 1:
		a.Qty = s.Most + s.Lot
	case 2:
		a.Price = 2000 * x.unit
	case 3:
		a.ID = x.parent().ID
	}
	x.ask("new", a)
}

// parent is one that was taken, mostly.
func (x *run) parent() api.Parent {
	if len(x.view.Parents) == 0 || x.oneIn(40) {
		return api.Parent{ID: "nobody", Qty: 10 * x.bulk, Price: 1000 * x.unit, End: 10}
	}
	return some(x.r, x.view.Parents...)
}

// deed is an ask about a parent.
func (x *run) deed() {
	p := x.parent()
	x.names++
	a := api.Ask{ID: "z" + strconv.Itoa(x.names), Target: p.ID}
	switch n := x.r.IntN(20); {
	case n < 2:
		a.Kind = api.AskCancel
		x.ask("cancel", a)
	case n < 5:
		a.Kind = api.AskPause
		x.ask("pause", a)
	case n < 11:
		a.Kind = api.AskResume
		x.ask("resume", a)
	default:
		lot := some(x.r, x.s.Symbols...).Lot
		a.Kind, a.Qty, a.Price, a.End = api.AskAmend, max(lot, p.Qty+lot*(x.r.IntN(13)-6)), p.Price+5*x.unit*(x.r.IntN(3)-1), max(1, p.End+x.r.IntN(21)-8)
		x.ask("amend", a)
	}
}

// child is one that is open, mostly, and the place of its venue.
func (x *run) child() (api.Child, int) {
	var open, all []api.Child
	for _, p := range x.view.Parents {
		for _, c := range p.Children {
			all = append(all, c)
			if c.State <= api.SReplacing {
				open = append(open, c)
			}
		}
	}
	c := api.Child{ID: "c1", Venue: "V", Qty: 10 * x.bulk, Price: 1000 * x.unit}
	switch {
	case len(open) > 0 && !x.oneIn(80):
		c = some(x.r, open...)
	case len(all) > 0:
		c = some(x.r, all...)
	}
	for i, v := range x.s.Venues {
		if v.Name == c.Venue {
			return c, i
		}
	}
	return c, 0
}

// reply is what a venue may say to a child, mostly.
func (x *run) reply() {
	c, venue := x.child()
	kind := some(x.r, api.ReplyNew, api.ReplyRejected, api.ReplyRefused, api.ReplyReplaced, api.ReplyCanceled)
	switch {
	case c.State == api.SPending && !x.oneIn(3):
		kind = some(x.r, api.ReplyNew, api.ReplyNew, api.ReplyNew, api.ReplyRejected)
	case c.State == api.SCanceling && !x.oneIn(4):
		kind = some(x.r, api.ReplyRefused, api.ReplyCanceled, api.ReplyCanceled, api.ReplyRejected)
	case c.State == api.SReplacing && !x.oneIn(4):
		kind = some(x.r, api.ReplyRefused, api.ReplyReplaced)
	case !x.oneIn(6):
		x.trade(c, venue)
		return
	}
	r := api.Reply{Kind: kind, ID: c.ID}
	if kind != api.ReplyRefused {
		r.Exec = "a"
	}
	x.say("reply", venue, r)
}

// say lets a venue say something, rarely with a number that isn't the next one.
func (x *run) say(call string, venue int, r api.Reply) api.Errno {
	x.t.Helper()
	r.Seq = x.taken[venue] + 1
	if right := !x.oneIn(100); right {
		x.taken[venue]++
	} else {
		r.Seq = max(1, r.Seq+some(x.r, -2, -1, 1, 2))
		if r.Seq == x.taken[venue]+1 {
			x.taken[venue]++
		}
	}
	_, e := x.g.Venue(x.s.Venues[venue].Name, x.reported(r))
	x.happened(call, e)
	return e
}

// reported is a reply as a message.
func (x *run) reported(r api.Reply) string {
	x.t.Helper()
	return x.sealed(post.EncodeReply(r))
}

// trade is an execution, a fault only rarely.
func (x *run) trade(c api.Child, venue int) {
	claim := max(c.Claim, 1)
	x.names++
	r := api.Reply{Kind: api.ReplyTrade, ID: c.ID, Exec: "e" + strconv.Itoa(x.names), Qty: some(x.r, 1, (claim+1)/2, claim, claim), Price: c.Price}
	better := x.unit
	if c.Side == api.Buy {
		better = -x.unit
	}
	r.Price += better * some(x.r, 0, 0, 0, 1, 3)
	switch x.r.IntN(250) {
	case 0, 1:
		r.Qty = claim + 1
	case 2, 3:
		r.Price = c.Price - 100*better
	}
	if c.State > api.SReplacing && !x.oneIn(20) {
		return
	}
	if x.say("trade", venue, r) == api.OK {
		x.seen = append(x.seen, seen{venue, r.ID, r.Exec})
	}
}

// bust takes back an execution that was taken, mostly.
func (x *run) bust() {
	if len(x.seen) == 0 {
		return
	}
	s := some(x.r, x.seen...)
	x.names++
	r := api.Reply{Kind: api.ReplyBust, ID: s.order, Exec: "b" + strconv.Itoa(x.names), Ref: s.exec}
	if x.oneIn(30) {
		r.Ref = some(x.r, "nothing", "b1")
	}
	x.say("bust", s.venue, r)
}

// garbage is bytes that are no message.
func (x *run) garbage() {
	bytes := some(x.r, "", "x", "8=FIX.4.4\x01", "8=FIX.4.4\x019=5\x0135=0\x0110=000\x01", "\xff\xfe")
	if x.oneIn(2) {
		_, e := x.g.Client(bytes)
		x.happened("bytes", e)
		return
	}
	_, e := x.g.Venue(some(x.r, "V", "U", "nobody"), bytes)
	x.happened("bytes of a venue", e)
}

func (x *run) step() {
	switch n := x.r.IntN(1000); {
	case n < 300:
		_, e := x.g.Tick()
		x.happened("tick", e)
	case n < 360:
		x.happened("print", x.g.Print(some(x.r, "X", "W", "Z"), some(x.r, 1, 7, 60)*x.bulk*some(x.r, 1, 1, 1, 1, -1)))
	case n < 440:
		x.newOrder()
	case n < 540:
		x.deed()
	case n < 900:
		x.reply()
	case n < 955:
		x.bust()
	case n < 965:
		x.garbage()
	case n < 971:
		x.happened("kill", x.g.Kill())
	default:
		if x.view.Killed || x.oneIn(5) {
			x.happened("go on", x.g.Resume())
		}
	}
}
