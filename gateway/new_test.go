package gateway_test

import (
	"reflect"
	"slices"
	"strconv"
	"strings"
	"testing"

	"spigot/api"
	"spigot/gateway"
)

// P29.1: New of a setup that isn't right in one thing.
func TestNewRefused(t *testing.T) {
	for i, change := range []func(s *api.Setup){
		func(s *api.Setup) { *s = api.Setup{} },
		func(s *api.Setup) { s.Accounts = nil },
		func(s *api.Setup) { s.Accounts = []api.Account{} },
		func(s *api.Setup) { s.Accounts[1].Name = "A" },
		func(s *api.Setup) { s.Accounts[0].Name = "" },
		func(s *api.Setup) { s.Accounts[0].Limit = -1 },
		func(s *api.Setup) { s.Accounts[1].Limit = mostLimit + 1 },
		func(s *api.Setup) { s.Accounts = make([]api.Account, 17) },
		func(s *api.Setup) { s.Symbols = nil },
		func(s *api.Setup) { s.Symbols[1].Name = "X" },
		func(s *api.Setup) { s.Symbols[0].Lot = 0 },
		func(s *api.Setup) { s.Symbols[1].Width = 10001 },
		func(s *api.Setup) { s.Symbols[0].Middle, s.Symbols[0].Width = 1001, 0 },
		func(s *api.Setup) { s.Venues = nil },
		func(s *api.Setup) { s.Venues[1].Name = "a=b" },
		func(s *api.Setup) { s.Venues[0].Lot = 0 },
		func(s *api.Setup) { s.Venues[0].Fee = 10001 },
		func(s *api.Setup) { s.Parents = 0 },
		func(s *api.Setup) { s.Parents = 65 },
		func(s *api.Setup) { s.Children = 0 },
		func(s *api.Setup) { s.Children = 257 },
		func(s *api.Setup) { s.Execs = 0 },
		func(s *api.Setup) { s.Execs = 1<<12 + 1 },
		func(s *api.Setup) { s.Window = 0 },
		func(s *api.Setup) { s.Window = 1<<30 + 1 },
		func(s *api.Setup) { s.Most = 0 },
		func(s *api.Setup) { s.Most = 1<<10 + 1 },
		func(s *api.Setup) { s.Repeat = 1 },
		func(s *api.Setup) { s.Repeat = greatestInt },
	} {
		s := setup()
		change(&s)
		if g, e := gateway.New(s); g != nil || e != api.ErrRules {
			t.Errorf("the setup %d: %v, %d", i, g, e)
		}
	}
}

// P29.1: New of setups at the ends of what is right: a gateway to which nothing happened.
func TestNew(t *testing.T) {
	least := example()
	least.Accounts[0].Limit, least.Parents, least.Children, least.Execs, least.Window, least.Most, least.Repeat = 0, 1, 1, 1, 1, 1, 2
	most := example()
	most.Parents, most.Children, most.Execs, most.Window, most.Most, most.Repeat = 64, 256, 1<<12, 1<<30, 1<<10, 1<<10
	for i := range 15 {
		most.Accounts = append(most.Accounts, api.Account{Name: "A" + strings.Repeat("a", i+1), Limit: mostLimit})
		x := most.Symbols[0]
		x.Name += strings.Repeat("x", i+1)
		most.Symbols = append(most.Symbols, x)
	}
	for i := range 7 {
		most.Venues = append(most.Venues, api.Venue{Name: "V" + strings.Repeat("v", i+1), Lot: 1})
	}
	for _, s := range []api.Setup{example(), setup(), least, most} {
		x := newPair(t, s)
		v := x.g.View()
		if v.Now != 0 || v.Killed || len(v.Parents) != 0 || len(v.Held) != 0 ||
			!slices.Equal(v.Used, make([]int, len(s.Accounts))) || !slices.Equal(v.Realised, v.Used) || !slices.Equal(v.Faults, make([]int, len(s.Venues))) {
			t.Errorf("%+v", v)
		}
		x.want(x.tick(), api.OK)
	}
}

// P29.1: Kill and Resume in both states.
func TestKillAndResume(t *testing.T) {
	x := newPair(t, setup())
	for range 3 {
		x.want(x.resume(), api.ErrState)
		x.wantFaults(false, 0, 0)
		x.want(x.kill(), api.OK)
		x.wantFaults(true, 0, 0)
		x.want(x.kill(), api.ErrState)
		x.wantFaults(true, 0, 0)
		x.want(x.resume(), api.OK)
		x.wantFaults(false, 0, 0)
	}
}

// Ahead of P29.1, and rule 1: of a gateway that is nil, or that New did not make, ErrNil and nothing else, whatever is asked.
func TestNotMade(t *testing.T) {
	for _, g := range []*gateway.Gateway{nil, {}, new(gateway.Gateway)} {
		for range 2 {
			for _, n := range []int{leastInt, -1, 0, 1, mostQty, greatestInt} {
				if e := g.Print("X", n); e != api.ErrNil {
					t.Errorf("Print: %d", e)
				}
				if got := g.Net(n, 0) | g.Net(0, n) | g.Net(n, n) | g.Quiet(); got != 0 {
					t.Errorf("Net or Quiet: %d", got)
				}
			}
			for _, e := range []api.Errno{g.Kill(), g.Resume(), g.Kill(), g.Print("", 1)} {
				if e != api.ErrNil {
					t.Errorf("Kill or Resume: %d", e)
				}
			}
			for _, bytes := range []string{"", "x", "\xff", askBytes(t, order("p")), askBytes(t, cancelOf("p")), replyBytes(t, acks("c1"))} {
				if out, e := g.Client(bytes); len(out) != 0 || e != api.ErrNil {
					t.Errorf("Client: %v, %d", out, e)
				}
				for _, name := range []string{"", "V", "W"} {
					if out, e := g.Venue(name, bytes); len(out) != 0 || e != api.ErrNil {
						t.Errorf("Venue: %v, %d", out, e)
					}
				}
			}
			if out, e := g.Tick(); len(out) != 0 || e != api.ErrNil {
				t.Errorf("Tick: %v, %d", out, e)
			}
			if v := g.View(); !reflect.DeepEqual(bare(v), api.View{}) {
				t.Errorf("View: %+v", v)
			}
		}
	}
}

// Rule 4: the setup that is handed in is neither changed nor kept.
func TestSetupIsNotKept(t *testing.T) {
	s := setup()
	s.Accounts = append(make([]api.Account, 0, 8), s.Accounts...)
	s.Symbols = append(make([]api.Symbol, 0, 8), s.Symbols...)
	s.Venues = append(make([]api.Venue, 0, 8), s.Venues...)
	g, e := gateway.New(s)
	if e != api.OK {
		t.Fatal(e)
	}
	if want := setup(); !reflect.DeepEqual(s, want) {
		t.Fatalf("%+v, not %+v", s, want)
	}
	for i, name := range []string{"", ""} {
		s.Accounts[i], s.Symbols[i], s.Venues[i] = api.Account{Name: name}, api.Symbol{Name: name}, api.Venue{Name: name}
	}
	x := &pair{t: t, g: g, m: newPlain(setup()), l: newLedger(t, g, setup())}
	x.want(x.ask(order("p")), api.OK, stands(1, "p", 0, 0, 100))
	x.want(x.tick(), api.OK, newOut(1, 1, "c1", "X", api.Buy, 10, 1000))
	x.want(x.say("V", trades("c1", "e", 10, 1000)), api.OK, report(2, "p", 1, 10, 1000, 10, 90, 0))
	x.want(x.print("Y", 1), api.OK)
	if g.Quiet() != 26 {
		t.Error(g.Quiet())
	}
}

// Rule 4: what is handed out is new memory: what is done with it changes nothing.
func TestAnswersAreNew(t *testing.T) {
	x := begun(t, setup(), order("p"), sale("q"))
	spoil := func(out []api.Out) {
		out = out[:cap(out)]
		for i := range out {
			out[i] = api.Out{To: -1, Text: "spoilt"}
		}
	}
	for range 3 {
		want, _ := x.m.tick()
		out, _ := x.g.Tick()
		if got := texts(t, out); !slices.Equal(got, want) {
			t.Fatal(got, want)
		}
		spoil(out)
		v := x.g.View()
		for _, list := range [][]int{v.Used, v.Realised, v.Held, v.Faults} {
			list = list[:cap(list)]
			for i := range list {
				list[i] = -7
			}
		}
		for i := range v.Parents {
			list := v.Parents[i].Children[:cap(v.Parents[i].Children)]
			for k := range list {
				list[k] = api.Child{ID: "spoilt"}
			}
		}
		parents := v.Parents[:cap(v.Parents)]
		for i := range parents {
			parents[i] = api.Parent{ID: "spoilt"}
		}
		x.look()
	}
	for _, call := range []func() ([]api.Out, api.Errno){
		func() ([]api.Out, api.Errno) { return x.g.Client("x") },
		func() ([]api.Out, api.Errno) { return x.g.Client(askBytes(t, cancelOf("z"))) },
		func() ([]api.Out, api.Errno) { return x.g.Venue("V", "x") },
	} {
		one, _ := call()
		want := slices.Clone(one)
		spoil(one)
		two, _ := call()
		if !slices.Equal(two, want) {
			t.Errorf("%+v, then %+v", want, two)
		}
		x.look()
	}
}

// P29.3: a symbol that there isn't, and each end of a quantity.
func TestPrint(t *testing.T) {
	x := newPair(t, setup())
	for _, name := range []string{"", "Z", "x", "XY", "A", "V", "\xff"} {
		for _, qty := range []int{leastInt, -1, 0, 1, mostQty, mostQty + 1, greatestInt} {
			x.want(x.print(name, qty), api.ErrUnknown)
		}
	}
	for _, name := range []string{"X", "Y"} {
		for _, qty := range []int{leastInt, leastInt + 1, -mostQty, -2, -1, 0, mostQty + 1, mostQty + 2, mostLimit, greatestInt - 1, greatestInt} {
			x.want(x.print(name, qty), api.ErrArg)
		}
		for _, qty := range []int{1, 2, mostQty - 1, mostQty} {
			x.want(x.print(name, qty), api.OK)
		}
	}
}

// P29.3: a total of just the most that may be, and one above; what is refused doesn't count, and the parents by volume go on.
func TestPrintToTheEnd(t *testing.T) {
	g, _ := gateway.New(setup())
	for range mostLimit/mostQty - 1 {
		if e := g.Print("X", mostQty); e != api.OK {
			t.Fatal(e)
		}
	}
	a := order("p")
	a.Algo, a.Rate, a.End = api.Flow, 1, 1000
	if _, e := g.Client(askBytes(t, a)); e != api.OK {
		t.Fatal(e)
	}
	for _, c := range []struct {
		qty int
		e   api.Errno
		out int
	}{{mostQty - 100000, api.OK, 1}, {100001, api.ErrOver, 0}, {mostQty, api.ErrOver, 0}, {100000, api.OK, 0}, {1, api.ErrOver, 0}, {mostQty + 1, api.ErrArg, 0}} {
		if e := g.Print("X", c.qty); e != c.e {
			t.Errorf("Print of %d: %d, asked for %d", c.qty, e, c.e)
		}
		if out, e := g.Tick(); len(out) != c.out || e != api.OK {
			t.Errorf("Tick behind %d: %+v, %d", c.qty, out, e)
		}
	}
	// Y has a total of its own.
	if e := g.Print("Y", mostQty); e != api.OK {
		t.Error(e)
	}
}

// P29.3: what a parent by volume then works with is its own symbol's total since it was taken, of what was not refused.
func TestPrintedVolume(t *testing.T) {
	x := newPair(t, setup())
	x.done(x.print("X", 1000), x.print("Y", 70))
	a := order("p")
	a.Algo, a.Rate, a.End = api.Flow, 2500, 1000
	x.done(x.ask(a))
	x.want(x.tick(), api.OK)
	x.done(x.print("Y", 400))
	x.want(x.tick(), api.OK)
	x.want(x.print("X", 0), api.ErrArg)
	x.want(x.print("X", -400), api.ErrArg)
	x.want(x.print("Z", 400), api.ErrUnknown)
	x.done(x.print("X", 3))
	x.want(x.tick(), api.OK)
	x.done(x.print("X", 1))
	x.want(x.tick(), api.OK, newOut(1, 1, "c1", "X", api.Buy, 10, 1000))
	x.done(x.print("X", 40), x.print("X", 36))
	x.want(x.tick(), api.OK, newOut(1, 2, "c2", "X", api.Buy, 10, 1000))
	x.done(x.print("X", mostQty))
	x.want(x.tick(), api.OK, newOut(1, 3, "c3", "X", api.Buy, 80, 1000))
	// A second one begins with what was printed up to then.
	b := a
	b.ID, b.Rate = "q", 10000
	x.done(x.ask(b))
	x.want(x.tick(), api.OK)
	x.done(x.print("X", 5))
	x.want(x.tick(), api.OK, newOut(1, 4, "c4", "X", api.Buy, 10, 1000))
}

// P29.6: Net of accounts and symbols that there are and that there aren't.
func TestNet(t *testing.T) {
	x := begun(t, setup(), order("p"), sale("q"))
	a := small("r")
	a.Account, a.Algo, a.Show = "A", api.Berg, 20
	x.done(x.ask(a))
	x.want(x.tick(), api.OK, newOut(1, 1, "c1", "X", api.Buy, 10, 1000), newOut(1, 2, "c2", "X", api.Sell, 10, 1000), newOut(1, 3, "c3", "Y", api.Buy, 20, 100))
	x.done(x.say("V", trades("c1", "e1", 10, 1000)), x.say("V", trades("c2", "e2", 3, 1005)), x.say("V", trades("c3", "e3", 9, 99)))
	x.wantNet(1, 0, 7)
	x.wantNet(1, 1, 0)
	x.wantNet(0, 0, 0)
	x.wantNet(0, 1, 9)
	x.done(x.say("V", trades("c2", "e4", 7, 1000)))
	x.wantNet(1, 0, 0)
	x.done(x.say("V", busts("c1", "e5", "e1")))
	x.wantNet(1, 0, -10)
	for _, n := range []int{leastInt, -2, -1, 2, 3, 16, greatestInt} {
		if got := []int{x.g.Net(n, 0), x.g.Net(n, 1), x.g.Net(0, n), x.g.Net(1, n), x.g.Net(n, n)}; !slices.Equal(got, make([]int, 5)) {
			t.Errorf("Net of %d: %v", n, got)
		}
	}
}

// P29.6: Net of each account and symbol, where there are not as many of the one as of the other.
func TestNetOfUnlike(t *testing.T) {
	for _, n := range [][2]int{{1, 4}, {4, 1}, {3, 2}, {16, 3}, {2, 16}} {
		s := setup()
		s.Accounts, s.Symbols, s.Parents, s.Children = nil, nil, 64, 64
		for i := range n[0] {
			s.Accounts = append(s.Accounts, api.Account{Name: "A" + strconv.Itoa(i), Limit: 1000000})
		}
		for i := range n[1] {
			x := setup().Symbols[1]
			x.Name = "Y" + strconv.Itoa(i)
			s.Symbols = append(s.Symbols, x)
		}
		x := newPair(t, s)
		for k, at := range [][2]int{{n[0] - 1, n[1] - 1}, {0, 0}, {n[0] - 1, 0}, {0, n[1] - 1}} {
			a := small("p" + strconv.Itoa(k))
			a.Account, a.Symbol, a.Algo, a.Show = s.Accounts[at[0]].Name, s.Symbols[at[1]].Name, api.Berg, 20
			x.done(x.ask(a), x.tick(), x.say("V", trades("c"+strconv.Itoa(k+1), "e"+strconv.Itoa(k), 1+k, 100)))
			if got := x.g.Net(at[0], at[1]); got < 1+k {
				t.Errorf("Net(%d, %d) of %v: %d", at[0], at[1], n, got)
			}
		}
	}
}

// P29.6: Quiet goes by the setup alone.
func TestQuiet(t *testing.T) {
	for _, c := range [][3]int{{1, 1, 7}, {1, 20, 26}, {5, 8, 54}, {5, 1, 19}, {3, 256, 778}, {1 << 30, 256, 258<<30 + 4}} {
		s := example()
		s.Window, s.Children = c[0], c[1]
		x := newPair(t, s)
		x.done(x.ask(order0("p")))
		x.ticks(3)
		if got := x.g.Quiet(); got != c[2] {
			t.Errorf("Quiet of %d and %d: %d, asked for %d", c[0], c[1], got, c[2])
		}
	}
}

// order0 is the document's P.
func order0(id string) api.Ask {
	a := order(id)
	a.Account = "A"
	return a
}

// Two gateways beside each other know nothing of each other.
func TestTwoBesideEachOther(t *testing.T) {
	x, y := newPair(t, setup()), newPair(t, example())
	x.want(x.ask(order("p")), api.OK, stands(1, "p", 0, 0, 100))
	y.want(y.ask(order0("p")), api.OK, stands(1, "p", 0, 0, 100))
	x.want(x.tick(), api.OK, newOut(1, 1, "c1", "X", api.Buy, 10, 1000))
	x.want(x.tick(), api.OK, newOut(1, 2, "c2", "X", api.Buy, 10, 1000))
	y.want(y.tick(), api.OK, newOut(1, 1, "c1", "X", api.Buy, 10, 1000))
	x.done(x.kill(), x.print("X", 9))
	y.want(y.say("V", trades("c1", "e", 10, 1000)), api.OK, report(2, "p", 1, 10, 1000, 10, 90, 0))
	x.want(x.say("V", trades("c1", "e", 10, 1000)), api.OK, report(2, "p", 1, 10, 1000, 10, 90, 0))
	y.want(y.tick(), api.OK, newOut(1, 2, "c2", "X", api.Buy, 10, 1000))
	x.want(x.tick(), api.OK, cancelOut(1, 3, "c2"))
}
