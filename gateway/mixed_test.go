package gateway_test

import (
	"math/rand/v2"
	"slices"
	"strconv"
	"testing"

	"spigot/api"
)

// some is one of a list.
func some[T any](r *rand.Rand, list ...T) T {
	return list[r.IntN(len(list))]
}

// rarely is one of a list once in n times, else the number.
func rarely(r *rand.Rand, n, number int, list ...int) int {
	if r.IntN(n) == 0 {
		return some(r, list...)
	}
	return number
}

// scale is how great a run's prices and quantities are: each is so many times what it is in small.
type scale struct{ unit, bulk int }

// worth is a worth in small, at the run's scale.
func (by scale) worth(n int) int {
	return min(n, mostLimit/by.unit/by.bulk) * by.unit * by.bulk
}

// someSetup has one to three accounts, symbols and venues, mostly not as many of each; what there may be of all is little.
func someSetup(r *rand.Rand, by scale) api.Setup {
	s := api.Setup{
		Parents: 1 + r.IntN(6), Children: 4 + r.IntN(40), Execs: 5 + r.IntN(60),
		Window: 1 + r.IntN(6), Most: some(r, 1, 2, 3, 5, 1024), Repeat: 2 + r.IntN(4),
	}
	for i := range 1 + r.IntN(3) {
		s.Accounts = append(s.Accounts, api.Account{Name: string(rune('A' + i)), Limit: by.worth(some(r, 0, 30000, 150000, 400000, 1000000, mostLimit))})
	}
	for i := range 1 + r.IntN(3) {
		lot := some(r, 1, 5, 10) * by.bulk
		s.Symbols = append(s.Symbols, api.Symbol{Name: string(rune('X' - i)), Lot: lot, Tick: some(r, 1, 5) * by.unit, Middle: 1000 * by.unit, Width: some(r, 100, 300, 1000), Most: 50 * lot, Worth: by.worth(some(r, 60000, 300000, mostLimit))})
	}
	for i := range 1 + r.IntN(3) {
		s.Venues = append(s.Venues, api.Venue{Name: string(rune('V' - i)), Lot: some(r, 1, 5, 10) * by.bulk, Fee: r.IntN(3), Shown: 10 * r.IntN(8) * by.bulk, Replaces: r.IntN(2) == 0})
	}
	return s
}

// player plays a pair by chance.
type player struct {
	*pair
	scale
	r     *rand.Rand
	met   map[string]int
	names int
	seen  []api.Reply // trades that were taken, by venue
	at    []string
}

func (x *player) note(call string, a answer) {
	x.met[call+" "+strconv.Itoa(int(a.e))]++
}

// parentsID is mostly of one that there is.
func (x *player) parentsID() string {
	if len(x.m.parents) == 0 || x.r.IntN(30) == 0 {
		return some(x.r, "nobody", "c1", "p0")
	}
	return some(x.r, x.m.parents...).Status().ID
}

// newOrder mostly may be.
func (x *player) newOrder() {
	r, now := x.r, x.m.now
	s := some(r, x.m.s.Symbols...)
	x.names++
	a := api.Ask{Kind: api.AskNew, ID: "p" + strconv.Itoa(x.names), Account: some(r, x.m.s.Accounts...).Name, Symbol: s.Name, Side: some(r, api.Buy, api.Sell)}
	a.Qty = rarely(r, 12, s.Lot*(1+r.IntN(20)), 1, s.Lot+1, s.Most, s.Most+s.Lot, mostQty)
	a.Price = rarely(r, 15, (1000+5*(r.IntN(3)-1))*x.unit, 1, 1003*x.unit, 1100*x.unit, 1105*x.unit, mostPrice)
	a.Algo = some(r, api.Twap, api.Vwap, api.Flow, api.Berg)
	a.Start = max(0, now+r.IntN(12)-8)
	a.End = a.Start + 1 + r.IntN(30)
	switch a.Algo {
	case api.Vwap:
		a.Curve = []int{r.IntN(3), 1 + r.IntN(3), r.IntN(3)}
	case api.Flow:
		a.Rate = 1 + r.IntN(10000)
	case api.Berg:
		a.Show = 1 + r.IntN(a.Qty)
	}
	switch r.IntN(40) {
	case 0:
		a.Account = "Z"
	case 1:
		a.Symbol = "Z"
	case 2, 3:
		a.ID = x.parentsID()
	}
	x.note("AskNew", x.ask(a))
}

// deed is an ask about a parent.
func (x *player) deed() {
	id := x.parentsID()
	switch n := x.r.IntN(20); {
	case n < 2:
		x.note("AskCancel", x.ask(cancelOf(id)))
	case n < 5:
		x.note("AskPause", x.ask(pauseOf(id)))
	case n < 11:
		x.note("AskResume", x.ask(resumeOf(id)))
	default:
		x.note("AskAmend", x.ask(x.amendment(id)))
	}
}

func (x *player) amendment(id string) api.Ask {
	p := api.Parent{Qty: 10, Price: 1000 * x.unit, End: 10}
	if q := x.m.find(id); q != nil {
		p = q.Status()
	}
	lot := 1
	if i := x.m.symbol(p.Symbol); i >= 0 {
		lot = x.m.s.Symbols[i].Lot
	}
	a := amendOf(id, max(lot, p.Qty+lot*(x.r.IntN(13)-6)), rarely(x.r, 15, (1000+5*(x.r.IntN(3)-1))*x.unit, 1, 1003*x.unit, 1105*x.unit), rarely(x.r, 10, x.m.now+1+x.r.IntN(30), 0, x.m.now, p.End, mostTime))
	switch x.r.IntN(12) {
	case 0:
		a.Qty, a.Price, a.End = p.Qty, p.Price, p.End
	case 1:
		a.Qty = max(1, (p.Filled+p.Busted)/lot*lot)
	case 2:
		a.Qty = rarely(x.r, 2, a.Qty+1, 50*lot, 51*lot)
	}
	return a
}

// child is one of all, an open one mostly.
func (x *player) child() api.Child {
	var open, all []api.Child
	for _, p := range x.m.parents {
		for _, c := range p.Status().Children {
			all = append(all, c)
			if isOpen(c.State) {
				open = append(open, c)
			}
		}
	}
	switch {
	case len(open) > 0 && x.r.IntN(60) > 0:
		return some(x.r, open...)
	case len(all) > 0:
		return some(x.r, all...)
	}
	return api.Child{ID: "c1", Venue: x.m.s.Venues[0].Name, Qty: 10, Price: 1000 * x.unit}
}

// reply is one that mostly may be.
func (x *player) reply() {
	c := x.child()
	kind := some(x.r, api.ReplyNew, api.ReplyRejected, api.ReplyRefused, api.ReplyReplaced, api.ReplyCanceled)
	switch {
	case c.State == api.SPending && x.r.IntN(3) > 0:
		kind = some(x.r, api.ReplyNew, api.ReplyNew, api.ReplyNew, api.ReplyRejected)
	case c.State == api.SCanceling && x.r.IntN(4) > 0:
		kind = some(x.r, api.ReplyRefused, api.ReplyCanceled, api.ReplyCanceled, api.ReplyRejected)
	case c.State == api.SReplacing && x.r.IntN(4) > 0:
		kind = some(x.r, api.ReplyRefused, api.ReplyReplaced)
	case x.r.IntN(6) > 0:
		x.trade(c)
		return
	}
	x.send("Reply", c.Venue, says(kind, c.ID, "a"))
}

// send sends a reply, now and then of another order, with another number, or of another venue.
func (x *player) send(call, venue string, r api.Reply) {
	if x.r.IntN(150) == 0 {
		r.ID = some(x.r, "c0", "c1000", "c1")
	}
	if x.r.IntN(100) == 0 {
		venue = some(x.r, x.m.s.Venues...).Name
	}
	taken := x.m.venues[x.m.venuePlace(venue)].taken
	r.Seq = taken + 1
	if x.r.IntN(60) == 0 {
		r.Seq = max(1, some(x.r, taken, taken-1, taken+2, mostTime))
	}
	a := x.sayAs(venue, r)
	x.note(call, a)
	if a.e == api.OK && r.Kind == api.ReplyTrade {
		x.seen, x.at = append(x.seen, r), append(x.at, venue)
	}
}

// trade is an execution, now and then the same as the last one; a fault only rarely.
func (x *player) trade(c api.Child) {
	claim := max(claimOf(c), 1)
	x.names++
	r := trades(c.ID, "e"+strconv.Itoa(x.names), some(x.r, 1, 1, (claim+1)/2, claim, claim), c.Price)
	if n := len(x.seen); n > 0 && x.r.IntN(2) == 0 {
		r.Qty = min(x.seen[n-1].Qty, claim)
	}
	better := x.unit
	if c.Side == api.Buy {
		better = -x.unit
	}
	r.Price += better * some(x.r, 0, 0, 0, 0, 1, 3)
	switch x.r.IntN(300) {
	case 0, 1:
		r.Qty = claim + 1
	case 2, 3:
		r.Price = c.Price - 100*better
	case 4, 5, 6, 7, 8:
		if n := len(x.seen); n > 0 {
			r.Exec = x.seen[x.r.IntN(n)].Exec
		}
	}
	// What is done, and a venue that is full, would be a fault each time.
	v := x.m.venues[x.m.venuePlace(c.Venue)]
	if (!isOpen(c.State) || len(v.execs) == x.m.s.Execs) && x.r.IntN(20) > 0 {
		return
	}
	x.send("Trade", c.Venue, r)
}

// bust is one of an execution that was taken, mostly.
func (x *player) bust() {
	if len(x.seen) == 0 {
		return
	}
	i := x.r.IntN(len(x.seen))
	x.names++
	r := busts(x.seen[i].ID, "b"+strconv.Itoa(x.names), x.seen[i].Exec)
	switch x.r.IntN(30) {
	case 0:
		r.Ref = some(x.r, "nothing", "b1", r.Exec)
	case 1:
		c := x.child()
		r.ID = c.ID
	case 2:
		r.Exec = r.Ref
	}
	x.send("Bust", x.at[i], r)
}

// garbage is bytes that are no message, or say nothing that there is.
func (x *player) garbage() {
	bytes := []byte(askBytes(x.t, cancelOf("p")))
	switch x.r.IntN(4) {
	case 0:
		bytes = bytes[:x.r.IntN(len(bytes))]
	case 1:
		bytes = append(bytes, bytes[:1+x.r.IntN(len(bytes))]...)
	case 2:
		bytes[x.r.IntN(len(bytes))] ^= 1 << x.r.IntN(8)
	default:
		bytes = []byte(sealed("35=" + some(x.r, "Q", "8", "D", "G") + "|11=" + some(x.r, "", "p", "=") + "|"))
	}
	if x.r.IntN(2) == 0 {
		x.note("garbage", x.raw(string(bytes)))
		return
	}
	x.note("garbage of a venue", x.rawOf(some(x.r, "V", "U", "T", "none"), string(bytes)))
}

func (x *player) step() {
	switch n := x.r.IntN(1000); {
	case n < 300:
		for _, text := range x.tick().out {
			x.met["out "+field(text, "35")]++
		}
	case n < 360:
		x.note("Print", x.print(rarelyText(x.r, 20, some(x.r, x.m.s.Symbols...).Name, "Z"), rarely(x.r, 12, 1+x.r.IntN(60*x.bulk), -1, 0, mostQty+1, greatestInt)))
	case n < 440:
		x.newOrder()
	case n < 540:
		x.deed()
	case n < 900:
		x.reply()
	case n < 955:
		x.bust()
	case n < 970:
		x.garbage()
	case n < 976:
		x.note("Kill", x.kill())
	default:
		if x.m.killed || x.r.IntN(5) == 0 {
			x.note("Resume", x.resume())
		}
	}
}

func rarelyText(r *rand.Rand, n int, text, rare string) string {
	if r.IntN(n) == 0 {
		return rare
	}
	return text
}

// newPlayer plays the run of a number.
func newPlayer(t *testing.T, run int, met map[string]int) *player {
	t.Helper()
	r := rand.New(rand.NewPCG(29, uint64(run)))
	by := some(r, scale{1, 1}, scale{1, 1}, scale{1 << 16, 1 << 20}, scale{1 << 28, 1 << 14})
	return &player{pair: newPair(t, someSetup(r, by)), scale: by, r: r, met: met}
}

// P29.1 to P29.7, W1 to W8: runs by chance over many setups, small ones and ones near the limits, wrong calls among them, each call held against the plain gateway and watched by the ledger; played again all is the same.
func TestByChance(t *testing.T) {
	met := map[string]int{}
	for run := range 500 {
		x := newPlayer(t, run, met)
		for range 300 {
			x.step()
			for _, p := range x.m.parents {
				met["state "+strconv.Itoa(p.Status().State)]++
			}
		}
		x.playAgain()
	}
	for _, call := range []string{
		"AskNew 0", "AskNew 20", "AskNew 21", "AskNew 22", "AskNew 40", "AskNew 41", "AskNew 42", "AskNew 160", "AskNew 161", "AskNew 170", "AskNew 282", "AskNew 283",
		"AskCancel 0", "AskCancel 42", "AskCancel 200", "AskCancel 281", "AskPause 0", "AskPause 42", "AskPause 200", "AskPause 281",
		"AskResume 0", "AskResume 42", "AskResume 200", "AskResume 281", "AskResume 283",
		"AskAmend 0", "AskAmend 20", "AskAmend 21", "AskAmend 22", "AskAmend 42", "AskAmend 160", "AskAmend 161", "AskAmend 170", "AskAmend 200", "AskAmend 281", "AskAmend 282",
		"Reply 0", "Reply 42", "Reply 200", "Reply 220", "Reply 221", "Trade 0", "Trade 3", "Trade 22", "Trade 40", "Trade 41", "Trade 42", "Trade 200", "Trade 220", "Trade 221",
		"Bust 0", "Bust 40", "Bust 41", "Bust 42", "Bust 200", "Bust 220", "Bust 221", "Print 0", "Print 2", "Print 42", "Kill 0", "Kill 200", "Resume 0", "Resume 200",
		"garbage 100", "garbage 101", "garbage 102", "garbage 103", "garbage 113", "garbage 120", "garbage of a venue 42", "garbage of a venue 100", "garbage of a venue 113", "garbage of a venue 120",
		"out D", "out F", "out G", "out 8", "state 1", "state 2", "state 3", "state 4", "state 5", "state 6",
	} {
		if met[call] < 10 {
			t.Errorf("%s was met %d times only", call, met[call])
		}
	}
}

// answerAll lets each venue answer each outstanding request: a cancel by a cancel or by all that is left, never by a refusal, which asks for another one.
func (x *player) answerAll() {
	x.t.Helper()
	for _, p := range x.m.parents {
		for _, c := range p.Status().Children {
			v := x.m.venues[x.m.venuePlace(c.Venue)]
			x.names++
			fill := trades(c.ID, "f"+strconv.Itoa(x.names), c.Claim, c.Price)
			may := len(v.execs) < x.m.s.Execs && c.State != api.SReplacing && isOpen(c.State)
			switch {
			case may && x.r.IntN(4) == 0:
				x.done(x.say(c.Venue, fill))
			case c.State == api.SPending:
				x.done(x.say(c.Venue, says(some(x.r, api.ReplyNew, api.ReplyNew, api.ReplyRejected), c.ID, "a")))
			case c.State == api.SCanceling:
				x.done(x.say(c.Venue, says(api.ReplyCanceled, c.ID, "a")))
			case c.State == api.SReplacing:
				x.done(x.say(c.Venue, says(some(x.r, api.ReplyReplaced, api.ReplyRefused), c.ID, "a")))
			}
		}
	}
}

// W9: from wherever a run by chance has come to: when all are canceled, and each outstanding request is answered at each tick, all are done within Quiet ticks; then nothing is out or reserved.
func TestEnds(t *testing.T) {
	for run := range 400 {
		x := newPlayer(t, 1000+run, map[string]int{})
		for range x.r.IntN(250) {
			x.step()
		}
		for _, p := range x.m.parents {
			x.ask(cancelOf(p.Status().ID))
		}
		open := func(p *plainParent) bool { return p.Open() }
		for n := 0; n < x.g.Quiet() && slices.ContainsFunc(x.m.parents, open); n++ {
			x.tick()
			x.answerAll()
		}
		v := x.g.View()
		for i, p := range v.Parents {
			if p.State < api.PFilled || p.Claims != 0 || v.Held[i] != 0 {
				t.Fatalf("the run %d: within %d ticks %s isn't done: %+v", run, x.g.Quiet(), p.ID, p)
			}
		}
		if !slices.Equal(v.Used, v.Realised) {
			t.Fatalf("the run %d: %+v", run, v)
		}
		for range 5 {
			x.want(x.tick(), api.OK)
		}
	}
}
