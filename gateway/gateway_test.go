package gateway_test

import (
	"reflect"
	"slices"
	"strconv"
	"strings"
	"testing"

	"spigot/api"
	"spigot/ask"
	"spigot/gateway"
	"spigot/post"
)

const (
	leastInt    = -1 << 63
	greatestInt = 1<<63 - 1
)

// The document's limits, in numbers.
const (
	mostQty   = 1 << 40
	mostPrice = 1 << 40
	mostTime  = 1 << 40
	mostLimit = 1 << 62
)

// example is the setup of the document's ten examples.
func example() api.Setup {
	return api.Setup{
		Accounts: []api.Account{{Name: "A", Limit: 150000}},
		Symbols:  []api.Symbol{{Name: "X", Lot: 10, Tick: 5, Middle: 1000, Width: 100, Most: 1000, Worth: 1000000}},
		Venues:   []api.Venue{{Name: "V", Lot: 10, Shown: 100, Replaces: true}},
		Parents:  2, Children: 8, Execs: 50, Window: 5, Most: 4, Repeat: 4,
	}
}

// setup has two accounts, the symbols X (its band from 990 to 1010) and Y (from 90 to 110), and the venues V, which replaces, and W, which doesn't; the window lets through whatever is wanted.
func setup() api.Setup {
	return api.Setup{
		Accounts: []api.Account{{Name: "A", Limit: 150000}, {Name: "B", Limit: 2000000}},
		Symbols: []api.Symbol{
			{Name: "X", Lot: 10, Tick: 5, Middle: 1000, Width: 100, Most: 1000, Worth: 1000000},
			{Name: "Y", Lot: 1, Tick: 1, Middle: 100, Width: 1000, Most: 5000, Worth: 500000},
		},
		Venues: []api.Venue{
			{Name: "V", Lot: 10, Fee: 1, Shown: 1000, Replaces: true},
			{Name: "W", Lot: 5, Fee: 2, Shown: 1000},
		},
		Parents: 4, Children: 20, Execs: 50, Window: 1, Most: 1024, Repeat: 4,
	}
}

// order is of 100 of X at 1000, evenly from 0 to 10, of the account B: 10 more at each tick, for V.
func order(id string) api.Ask {
	return api.Ask{Kind: api.AskNew, ID: id, Account: "B", Symbol: "X", Side: api.Buy, Qty: 100, Price: 1000, Algo: api.Twap, End: 10}
}

// sale is order for the other side.
func sale(id string) api.Ask {
	a := order(id)
	a.Side = api.Sell
	return a
}

// small is of 20 of Y at 100, evenly from 0 to 10: 2 more at each tick, which is too little for V and W at first.
func small(id string) api.Ask {
	a := order(id)
	a.Symbol, a.Qty, a.Price = "Y", 20, 100
	return a
}

// iceberg is of 100 of X at 1000, of which 20 are shown.
func iceberg(id string) api.Ask {
	a := order(id)
	a.Algo, a.Show, a.End = api.Berg, 20, 1000
	return a
}

func cancelOf(id string) api.Ask { return api.Ask{Kind: api.AskCancel, ID: "z", Target: id} }

func pauseOf(id string) api.Ask { return api.Ask{Kind: api.AskPause, ID: "z", Target: id} }

func resumeOf(id string) api.Ask { return api.Ask{Kind: api.AskResume, ID: "z", Target: id} }

func amendOf(id string, qty, price, end int) api.Ask {
	return api.Ask{Kind: api.AskAmend, ID: "z", Target: id, Qty: qty, Price: price, End: end}
}

// says is a right reply of a kind; its number is set where it is sent.
func says(kind int, id, exec string) api.Reply {
	r := api.Reply{Kind: kind, Seq: 1, ID: id, Exec: exec}
	if kind == api.ReplyRefused {
		r.Exec = ""
	}
	return r
}

func acks(id string) api.Reply { return says(api.ReplyNew, id, "a") }

func trades(id, exec string, qty, price int) api.Reply {
	r := says(api.ReplyTrade, id, exec)
	r.Qty, r.Price = qty, price
	return r
}

func busts(id, exec, ref string) api.Reply {
	r := says(api.ReplyBust, id, exec)
	r.Ref = ref
	return r
}

// askBytes is an ask as a message.
func askBytes(t *testing.T, a api.Ask) string {
	t.Helper()
	body, e := ask.Encode(a)
	if e != api.OK {
		t.Fatalf("no right ask: %+v", a)
	}
	return sealed(body)
}

// replyBytes is a reply as a message.
func replyBytes(t *testing.T, r api.Reply) string {
	t.Helper()
	body, e := post.EncodeReply(r)
	if e != api.OK {
		t.Fatalf("no right reply: %+v", r)
	}
	return sealed(body)
}

// texts are what goes out as texts; each must be a sealed body.
func texts(t *testing.T, out []api.Out) []string {
	t.Helper()
	var list []string
	for _, o := range out {
		_, rest, _ := strings.Cut(o.Text, "\x019=")
		_, rest, _ = strings.Cut(rest, "\x01")
		body := rest[:max(len(rest)-7, 0)]
		if sealed(body) != o.Text {
			t.Fatalf("this goes out: %q", o.Text)
		}
		list = append(list, strconv.Itoa(o.To)+" "+strings.ReplaceAll(body, "\x01", "|"))
	}
	return list
}

// sameView holds two views against each other; a list without an element is as good as nil.
func sameView(a, b api.View) bool {
	return reflect.DeepEqual(bare(a), bare(b))
}

func bare(v api.View) api.View {
	v.Parents = append([]api.Parent(nil), v.Parents...)
	for i := range v.Parents {
		v.Parents[i].Children = append([]api.Child(nil), v.Parents[i].Children...)
	}
	for _, list := range []*[]int{&v.Used, &v.Realised, &v.Held, &v.Faults} {
		*list = append([]int(nil), *list...)
	}
	return v
}

// pair is a gateway, the plain one beside it, which is handed the same, and a ledger that watches: whatever goes out and is told must be the same.
type pair struct {
	t      *testing.T
	g      *gateway.Gateway
	m      *plain
	l      *ledger
	played []played
}

// played is a call that was made, and what it answered.
type played struct {
	call func(g *gateway.Gateway) ([]api.Out, api.Errno)
	out  []api.Out
	e    api.Errno
}

// play makes a call, and keeps it.
func (x *pair) play(call func(g *gateway.Gateway) ([]api.Out, api.Errno)) ([]api.Out, api.Errno) {
	out, e := call(x.g)
	x.played = append(x.played, played{call, slices.Clone(out), e})
	return out, e
}

// playAgain plays all that came to another gateway of the same setup, which must answer and tell the same.
func (x *pair) playAgain() {
	x.t.Helper()
	g, _ := gateway.New(x.m.s)
	for i, p := range x.played {
		if out, e := p.call(g); !slices.Equal(out, p.out) || e != p.e {
			x.t.Fatalf("the call %d: %v, %d; played again: %v, %d", i, p.out, p.e, out, e)
		}
	}
	if !sameView(g.View(), x.g.View()) {
		x.t.Fatalf("%+v\nplayed again\n%+v", x.g.View(), g.View())
	}
}

func newPair(t *testing.T, s api.Setup) *pair {
	t.Helper()
	g, e := gateway.New(s)
	if g == nil || e != api.OK {
		t.Fatalf("New(%+v): %v, %d", s, g, e)
	}
	x := &pair{t: t, g: g, m: newPlain(s), l: newLedger(t, g, s)}
	x.look()
	return x
}

// begun is a pair of the setup to which asks came that are taken.
func begun(t *testing.T, s api.Setup, list ...api.Ask) *pair {
	t.Helper()
	x := newPair(t, s)
	for _, a := range list {
		x.done(x.ask(a))
	}
	return x
}

// look asks for all that is told, twice, as being asked changes nothing.
func (x *pair) look() {
	x.t.Helper()
	want := x.m.view()
	for range 2 {
		if got := x.g.View(); !sameView(got, want) {
			x.t.Fatalf("View:\n%+v\nthe document asks for\n%+v", got, want)
		}
		for i, a := range x.m.s.Accounts {
			for k, s := range x.m.s.Symbols {
				if got := x.g.Net(i, k); got != x.m.net[[2]string{a.Name, s.Name}] {
					x.t.Fatalf("Net(%d, %d): %d", i, k, got)
				}
			}
		}
	}
}

// answer is what a call has answered.
type answer struct {
	call string
	out  []string
	e    api.Errno
}

// behind holds a call's answer against the plain one.
func (x *pair) behind(call string, out []api.Out, e api.Errno, want []string, wantE api.Errno) answer {
	x.t.Helper()
	got := texts(x.t, out)
	if !slices.Equal(got, want) || e != wantE {
		x.t.Fatalf("%s: %d\n%s\nthe document asks for %d\n%s", call, e, strings.Join(got, "\n"), wantE, strings.Join(want, "\n"))
	}
	x.look()
	return answer{call, got, e}
}

func (x *pair) tick() answer {
	x.t.Helper()
	want, wantE := x.m.tick()
	out, e := x.play((*gateway.Gateway).Tick)
	a := x.behind("Tick", out, e, want, wantE)
	x.l.ticked(a.out)
	return a
}

func (x *pair) print(symbol string, qty int) answer {
	x.t.Helper()
	want := x.m.print(symbol, qty)
	out, e := x.play(func(g *gateway.Gateway) ([]api.Out, api.Errno) { return nil, g.Print(symbol, qty) })
	a := x.behind("Print of "+symbol+" "+strconv.Itoa(qty), out, e, nil, want)
	x.l.printed(symbol, qty, a.e)
	return a
}

func (x *pair) kill() answer {
	x.t.Helper()
	want := x.m.kill()
	out, e := x.play(func(g *gateway.Gateway) ([]api.Out, api.Errno) { return nil, g.Kill() })
	a := x.behind("Kill", out, e, nil, want)
	x.l.switched(true)
	return a
}

func (x *pair) resume() answer {
	x.t.Helper()
	want := x.m.resume()
	out, e := x.play(func(g *gateway.Gateway) ([]api.Out, api.Errno) { return nil, g.Resume() })
	a := x.behind("Resume", out, e, nil, want)
	x.l.switched(false)
	return a
}

// raw hands a client's bytes in that are to be refused.
func (x *pair) raw(bytes string) answer {
	x.t.Helper()
	want, wantE := x.m.client(bytes)
	out, e := x.play(func(g *gateway.Gateway) ([]api.Out, api.Errno) { return g.Client(bytes) })
	a := x.behind("Client of "+bytes, out, e, want, wantE)
	x.l.refused(0, e, a.out, false)
	return a
}

func (x *pair) ask(a api.Ask) answer {
	x.t.Helper()
	bytes := askBytes(x.t, a)
	want, wantE := x.m.client(bytes)
	out, e := x.play(func(g *gateway.Gateway) ([]api.Out, api.Errno) { return g.Client(bytes) })
	got := x.behind("Client of "+bytes, out, e, want, wantE)
	if e == api.OK {
		x.l.asked(a)
	} else {
		x.l.refused(0, e, got.out, false)
	}
	return got
}

// rawOf hands a venue's bytes in that are to be refused.
func (x *pair) rawOf(venue, bytes string) answer {
	x.t.Helper()
	want, wantE := x.m.venue(venue, bytes)
	out, e := x.play(func(g *gateway.Gateway) ([]api.Out, api.Errno) { return g.Venue(venue, bytes) })
	a := x.behind("Venue of "+venue+" "+bytes, out, e, want, wantE)
	if i := x.m.venuePlace(venue); i < 0 {
		x.l.still(a.call)
	} else {
		x.l.refused(i+1, e, a.out, false)
	}
	return a
}

// say hands a reply of a venue in, with the next number.
func (x *pair) say(venue string, r api.Reply) answer {
	x.t.Helper()
	r.Seq = x.m.venues[x.m.venuePlace(venue)].taken + 1
	return x.sayAs(venue, r)
}

// sayAs hands a reply in with the number that it has.
func (x *pair) sayAs(venue string, r api.Reply) answer {
	x.t.Helper()
	bytes := replyBytes(x.t, r)
	want, wantE := x.m.venue(venue, bytes)
	out, e := x.play(func(g *gateway.Gateway) ([]api.Out, api.Errno) { return g.Venue(venue, bytes) })
	a := x.behind("Venue of "+venue+" "+bytes, out, e, want, wantE)
	if e == api.OK {
		x.l.heard(venue, r)
	} else {
		fault := r.Kind == api.ReplyTrade && slices.Contains([]api.Errno{api.ErrState, api.ErrBand, api.ErrBig, api.ErrFull}, e)
		x.l.refused(x.m.venuePlace(venue)+1, e, a.out, fault)
	}
	return a
}

// want asks for an error, and for what goes out beside it.
func (x *pair) want(a answer, e api.Errno, out ...string) {
	x.t.Helper()
	if a.e != e || !slices.Equal(a.out, out) {
		x.t.Fatalf("%s: %d\n%s\nasked for %d\n%s", a.call, a.e, strings.Join(a.out, "\n"), e, strings.Join(out, "\n"))
	}
}

// done asks for calls without an error, whatever goes out.
func (x *pair) done(list ...answer) {
	x.t.Helper()
	for _, a := range list {
		if a.e != api.OK {
			x.t.Fatalf("%s: %d\n%s", a.call, a.e, strings.Join(a.out, "\n"))
		}
	}
}

// ticks lets so many ticks go by.
func (x *pair) ticks(n int) {
	x.t.Helper()
	for range n {
		x.done(x.tick())
	}
}

// parent is how the parent of an ID stands.
func (x *pair) parent(id string) api.Parent {
	x.t.Helper()
	for _, p := range x.g.View().Parents {
		if p.ID == id {
			return p
		}
	}
	x.t.Fatalf("there is no parent %s", id)
	return api.Parent{}
}

func (x *pair) wantState(id string, state int) {
	x.t.Helper()
	if p := x.parent(id); p.State != state {
		x.t.Fatalf("%s is in the state %d, not in %d: %+v", id, p.State, state, p)
	}
}

// wantBook asks for what an account uses, what of it was realised, and what is held for the parents.
func (x *pair) wantBook(account, used, realised int, held ...int) {
	x.t.Helper()
	if v := x.g.View(); v.Used[account] != used || v.Realised[account] != realised || !slices.Equal(v.Held, held) {
		x.t.Fatalf("used %v, realised %v, held %v; asked for %d and %d of the account %d, held %v", v.Used, v.Realised, v.Held, used, realised, account, held)
	}
}

// wantNet asks for a position.
func (x *pair) wantNet(account, symbol, net int) {
	x.t.Helper()
	if got := x.g.Net(account, symbol); got != net {
		x.t.Fatalf("Net(%d, %d): %d, asked for %d", account, symbol, got, net)
	}
}

// wantFaults asks for the venues' faults, and whether it is killed.
func (x *pair) wantFaults(killed bool, faults ...int) {
	x.t.Helper()
	if v := x.g.View(); v.Killed != killed || !slices.Equal(v.Faults, faults) {
		x.t.Fatalf("killed %t, faults %v; asked for %t, %v", v.Killed, v.Faults, killed, faults)
	}
}
