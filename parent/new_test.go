package parent_test

import (
	"slices"
	"strings"
	"testing"

	"spigot/api"
	"spigot/parent"
	"spigot/router"
)

// wantNone looks that New refuses, and tells no parent beside the error.
func wantNone(t *testing.T, a api.Ask, s api.Symbol, u api.Setup, volume int, want api.Errno) {
	t.Helper()
	if p, e := parent.New(a, s, u, volume); p != nil || e != want {
		t.Errorf("New(%+v, %+v, %+v, %d): %v, %d; asked for %d", a, s, u, volume, p, e, want)
	}
}

// algos are orders of 100 at 1000 of each algorithm.
func algos(side int) []api.Ask {
	list := slices.Repeat([]api.Ask{order(side)}, 4)
	list[1].Algo, list[1].Curve = api.Vwap, []int{1, 3}
	list[2].Algo, list[2].Rate = api.Flow, 2500
	list[3].Algo, list[3].Show = api.Berg, 30
	return list
}

// P28.1: what is right is a parent that works, with nothing done; W is the price, for Sell the band's upper end.
func TestNew(t *testing.T) {
	for _, side := range []int{api.Buy, api.Sell} {
		for _, a := range algos(side) {
			x := newPair(t, a, symbolX(), setup(), 0)
			need := 100 * 1000
			if side == api.Sell {
				need = 100 * 1010
			}
			x.wantState(api.PWorking)
			x.wantSums(0, 0, 0, 0, need)
			want := api.Parent{ID: "p", Account: "A", Symbol: "X", Side: side, State: api.PWorking, Algo: a.Algo, Qty: 100, Price: 1000, End: 10, Most: 100, Need: need}
			if s := x.p.Status(); !same(s, want) {
				t.Errorf("Status: %+v", s)
			}
		}
	}
	a := order(api.Buy)
	a.ID, a.Account, a.Start, a.End = "q", "nobody", 7, 9
	// The setup's accounts and how much room it has are the gateway's: an order of another account is right here.
	if s := newPair(t, a, symbolX(), setup(), 5).p.Status(); s.ID != "q" || s.Account != "nobody" || s.Start != 7 || s.End != 9 {
		t.Errorf("Status: %+v", s)
	}
}

// P28.1: a setup that isn't right is ErrRules.
func TestNewOfWrongSetups(t *testing.T) {
	for i, wrong := range []func(u *api.Setup){
		func(u *api.Setup) { u.Accounts = nil },
		func(u *api.Setup) { u.Venues = nil },
		func(u *api.Setup) { u.Accounts[0].Limit = -1 },
		func(u *api.Setup) { u.Accounts[0].Name = "" },
		func(u *api.Setup) { u.Symbols[0].Name = "X" },
		func(u *api.Setup) { u.Symbols[0].Lot = 0 },
		func(u *api.Setup) { u.Symbols[0].Width = api.MaxRate },
		func(u *api.Setup) { u.Venues[1].Name = "V" },
		func(u *api.Setup) { u.Venues[0].Lot = 0 },
		func(u *api.Setup) { u.Venues[1].Fee = api.MaxFee + 1 },
		func(u *api.Setup) { u.Parents = 0 },
		func(u *api.Setup) { u.Children = api.MaxChildren + 1 },
		func(u *api.Setup) { u.Execs = 0 },
		func(u *api.Setup) { u.Window = 0 },
		func(u *api.Setup) { u.Window = api.MaxSpan + 1 },
		func(u *api.Setup) { u.Most = 0 },
		func(u *api.Setup) { u.Most = api.MaxWindow + 1 },
		func(u *api.Setup) { u.Repeat = 1 },
		func(u *api.Setup) { u.Repeat = api.MaxWindow + 1 },
		func(u *api.Setup) { *u = api.Setup{} },
	} {
		u := setup()
		wrong(&u)
		wantNone(t, order(api.Buy), symbolX(), u, 0, api.ErrRules)
		if t.Failed() {
			t.Fatalf("the setup %d", i)
		}
		// Whatever else is wrong.
		wantNone(t, api.Ask{}, symbolX(), u, -1, api.ErrRules)
		wantNone(t, order(api.Buy), api.Symbol{}, u, 0, api.ErrRules)
	}
}

// wrongSymbols are none of the setup's, each for one field alone.
func wrongSymbols() []api.Symbol {
	var list []api.Symbol
	for _, change := range []func(s *api.Symbol){
		func(s *api.Symbol) { s.Name = "Z" },
		func(s *api.Symbol) { s.Name = "Y" },
		func(s *api.Symbol) { s.Name = "" },
		func(s *api.Symbol) { s.Lot = 5 },
		func(s *api.Symbol) { s.Tick = 10 },
		func(s *api.Symbol) { s.Middle = 1005 },
		func(s *api.Symbol) { s.Width = 101 },
		func(s *api.Symbol) { s.Most = 1010 },
		func(s *api.Symbol) { s.Worth = 1000001 },
		func(s *api.Symbol) { *s = api.Symbol{} },
	} {
		s := symbolX()
		change(&s)
		list = append(list, s)
	}
	return list
}

// P28.1: a symbol that is none of the setup's, or has the name of one but another number, is ErrRules.
func TestNewOfWrongSymbols(t *testing.T) {
	for _, s := range wrongSymbols() {
		a := order(api.Buy)
		wantNone(t, a, s, setup(), 0, api.ErrRules)
		a.Symbol = s.Name
		wantNone(t, a, s, setup(), 0, api.ErrRules)
		wantNone(t, api.Ask{}, s, setup(), -1, api.ErrRules)
		a.Qty = 15
		wantNone(t, a, s, setup(), greatestInt, api.ErrRules)
	}
}

// P28.1: each place in the setup's list is as good.
func TestNewOfEachSymbol(t *testing.T) {
	for i, s := range setup().Symbols {
		a := order(api.Sell)
		a.Symbol, a.Price = s.Name, s.Middle
		x := newPair(t, a, s, setup(), 0)
		if want := [2]int{100 * 190, 100 * 1010}[i]; x.p.Need() != want {
			t.Errorf("the need %d of %q; asked for %d", x.p.Need(), s.Name, want)
		}
		for j, other := range setup().Symbols {
			if j != i {
				// The ask names another one of the setup's.
				wantNone(t, a, other, setup(), 0, api.ErrArg)
			}
		}
		a.Symbol = "Z"
		wantNone(t, a, s, setup(), 0, api.ErrArg)
	}
}

// wrongAsks are no right new orders.
func wrongAsks() []api.Ask {
	list := []api.Ask{
		{},
		{Kind: api.AskNew},
		{Kind: api.AskCancel, ID: "b", Target: "a"},
		{Kind: api.AskAmend, ID: "b", Target: "a", Qty: 100, Price: 1000, End: 9},
		{Kind: api.AskPause, ID: "b", Target: "a"},
		{Kind: api.AskResume, ID: "b", Target: "a"},
	}
	for _, change := range []func(a *api.Ask){
		func(a *api.Ask) { a.Kind = api.AskCancel },
		func(a *api.Ask) { a.Kind = api.AskResume + 1 },
		func(a *api.Ask) { a.ID = "" },
		func(a *api.Ask) { a.ID = strings.Repeat("a", 21) },
		func(a *api.Ask) { a.Account = "a b" },
		func(a *api.Ask) { a.Symbol = "" },
		func(a *api.Ask) { a.Target = "a" },
		func(a *api.Ask) { a.Side = 0 },
		func(a *api.Ask) { a.Side = 3 },
		func(a *api.Ask) { a.Qty = 0 },
		func(a *api.Ask) { a.Qty = -10 },
		func(a *api.Ask) { a.Qty = api.MaxQty + 10 },
		func(a *api.Ask) { a.Price = 0 },
		func(a *api.Ask) { a.Price = api.MaxPrice + 5 },
		func(a *api.Ask) { a.Algo = 0 },
		func(a *api.Ask) { a.Algo = 5 },
		func(a *api.Ask) { a.Algo = api.Vwap },
		func(a *api.Ask) { a.Start = -1 },
		func(a *api.Ask) { a.Start = 10 },
		func(a *api.Ask) { a.End = longest + 1 },
		func(a *api.Ask) { a.Rate = 1 },
		func(a *api.Ask) { a.Show = 1 },
		func(a *api.Ask) { a.Curve = []int{1} },
	} {
		a := order(api.Buy)
		change(&a)
		list = append(list, a)
	}
	return list
}

// P28.1: an ask that is no AskNew, or not right, is ErrArg, behind what is wrong with the setup and ahead of what Check says.
func TestNewOfWrongAsks(t *testing.T) {
	for _, a := range wrongAsks() {
		for _, volume := range []int{-1, 0, mostLimit, mostLimit + 1} {
			wantNone(t, a, symbolX(), setup(), volume, api.ErrArg)
		}
		wantNone(t, a, symbolX(), api.Setup{}, 0, api.ErrRules)
		wantNone(t, a, wrongSymbols()[3], setup(), 0, api.ErrRules)
		if a.Price == 1000 {
			a.Price = 1003
			wantNone(t, a, symbolX(), setup(), 0, api.ErrArg)
		}
	}
}

// P28.1: volumes from 0 to MaxLimit.
func TestNewVolumes(t *testing.T) {
	for _, a := range algos(api.Buy) {
		for _, volume := range []int{0, 1, 2, 1 << 40, mostLimit - 1, mostLimit} {
			x := newPair(t, a, symbolX(), setup(), volume)
			k := at(5, 1)
			k.volume = volume
			x.work(k)
		}
		for _, volume := range []int{leastInt, leastInt + 1, -2, -1, mostLimit + 1, greatestInt - 1, greatestInt} {
			wantNone(t, a, symbolX(), setup(), volume, api.ErrArg)
			// Behind what the setup has, ahead of what Check says.
			wantNone(t, a, api.Symbol{}, setup(), volume, api.ErrRules)
			b := a
			b.Qty = 15
			wantNone(t, b, symbolX(), setup(), volume, api.ErrArg)
		}
	}
}

// P28.1: Flow's market begins where New was.
func TestNewVolumeCounts(t *testing.T) {
	a := algos(api.Buy)[2]
	x := newPair(t, a, symbolX(), setup(), 50)
	for _, c := range []struct{ volume, qty int }{{49, 0}, {50, 0}, {53, 0}, {54, 10}, {90, 0}, {94, 10}, {249, 30}, {mostLimit + 1, 0}, {mostLimit, 50}} {
		k := at(1, len(x.p.Status().Children)+1)
		k.volume = c.volume
		n := 0
		for _, m := range x.work(k) {
			n += m.Qty
		}
		if n != c.qty {
			t.Fatalf("at the volume %d: %d; asked for %d", c.volume, n, c.qty)
		}
	}
}

// P28.1: each of Check's errors, behind ErrRules and ErrArg, and the first one of several.
func TestNewChecks(t *testing.T) {
	for _, side := range []int{api.Buy, api.Sell} {
		for _, c := range []struct {
			qty, price int
			want       api.Errno
		}{
			{1, 1000, api.ErrLot}, {15, 1000, api.ErrLot}, {1015, 1003, api.ErrLot}, {9, 2000, api.ErrLot},
			{1010, 1000, api.ErrQty}, {1 << 40, 1003, api.ErrLot}, {10 << 30, 1003, api.ErrQty}, {1010, 2000, api.ErrQty},
			{100, 1003, api.ErrTick}, {100, 1, api.ErrTick}, {1000, 1011, api.ErrTick},
			{100, 985, api.ErrBand}, {100, 1015, api.ErrBand}, {1000, 1015, api.ErrBand}, {100, 5, api.ErrBand},
			{1000, 1005, api.ErrNotional}, {1000, 1010, api.ErrNotional},
			{10, 1000, api.OK}, {100, 990, api.OK}, {100, 1010, api.OK}, {990, 1010, api.OK},
		} {
			a := order(side)
			a.Qty, a.Price = c.qty, c.price
			if c.want == api.OK {
				newPair(t, a, symbolX(), setup(), 0)
				continue
			}
			wantNone(t, a, symbolX(), setup(), 0, c.want)
			wantNone(t, a, symbolX(), setup(), -1, api.ErrArg)
			wantNone(t, a, symbolX(), api.Setup{}, 0, api.ErrRules)
			a.Symbol = "Y"
			wantNone(t, a, symbolX(), setup(), 0, api.ErrArg)
		}
	}
	// 1000 at 1000 are worth just what may be; for Sell they are worth 1010000 at the worst.
	a := order(api.Buy)
	a.Qty = 1000
	newPair(t, a, symbolX(), setup(), 0)
	a.Side = api.Sell
	wantNone(t, a, symbolX(), setup(), 0, api.ErrNotional)
}

// P28.1: the window and the streak are the setup's.
func TestNewTakesTheSetups(t *testing.T) {
	for _, most := range []int{1, 2, 3, 5} {
		u := narrow(7, most)
		u.Repeat = most + 1
		x := newPair(t, order(api.Buy), symbolX(), u, 0)
		for i := range 7 {
			if n := len(x.work(at(1+i, 1+i))); (n == 1) != (i < most) {
				t.Fatalf("at the tick %d with at most %d in 7: %d moves", 1+i, most, n)
			}
		}
		x.wantWork(at(8, 50), newMove(0, "c50", 80-10*most, 1000))
		for i := range most + 1 {
			x.wantState(api.PWorking)
			x.ok(x.reply(0, traded("c50", 1, 1000)))
			if (x.p.Status().State == api.PHalted) != (i == most) {
				t.Fatalf("behind %d the same: %+v", i+1, x.p.Status())
			}
		}
	}
}

// Rule 4: lists that are handed in are neither changed nor kept, spare room too, and each list that is handed out is a new one.
func TestNothingIsKept(t *testing.T) {
	a, u := algos(api.Buy)[1], setup()
	room := []int{1, 3, 7, 9}
	a.Curve = room[:2]
	u.Symbols, u.Venues = slices.Grow(u.Symbols, 3), slices.Grow(u.Venues, 3)
	x := newPair(t, a, symbolX(), u, 0)
	if !slices.Equal(room, []int{1, 3, 7, 9}) || !slices.Equal(u.Symbols, setup().Symbols) || !slices.Equal(u.Venues, setup().Venues) || u.Venues[:3][2] != (api.Venue{}) {
		t.Fatalf("New changed what it was handed: %v, %+v", room, u)
	}
	room[0], room[1] = 9, 1
	u.Symbols[1], u.Symbols[0] = api.Symbol{Name: "X"}, api.Symbol{}
	u.Venues[0], u.Venues[1] = api.Venue{Name: "other"}, api.Venue{Name: "W", Replaces: true}
	offers := make([]router.Offer, 2, 4)
	offers[0], offers[1], offers[:4][2], offers[:4][3] = v(), w(), v(), w()
	offers[0].Shown = 10
	moves := x.work(at(4, 1, offers...))
	if len(moves) != 2 || moves[0] != newMove(0, "c1", 10, 1000) || moves[1] != newMove(1, "c2", 10, 1000) {
		t.Fatalf("%+v", moves)
	}
	moves[0] = api.Move{}
	clear(moves[:cap(moves)])
	clear(offers[:4])
	told := x.p.Status()
	clear(told.Children[:cap(told.Children)])
	x.look()
	x.ok(x.reply(0, says(api.ReplyNew, "c1")), x.reply(1, says(api.ReplyNew, "c2")), x.amend(100, 1005, 10, 4))
	x.wantWork(at(4, 3, v(), w()), replaceMove(0, "c1", 10, 1005), cancelMove(1, "c2"))
	if s := x.p.Status(); s.Children[0].Venue != "V" || s.Children[1].Venue != "W" {
		t.Fatalf("%+v", s)
	}
}

// No parent knows of another one.
func TestTwoParents(t *testing.T) {
	one, other := newPair(t, order(api.Buy), symbolX(), narrow(5, 2), 0), newPair(t, order(api.Sell), symbolX(), narrow(5, 2), 0)
	one.out(2, v())
	other.wantWork(at(1, 1), newMove(0, "c1", 10, 1000))
	one.ok(one.reply(0, traded("c1", 10, 1000)), one.pause())
	other.wantState(api.PWorking)
	other.wantSums(0, 0, 0, 10, 101000)
	other.ok(other.reply(0, traded("c1", 4, 1005)), other.bust(0, "c1", 4, 1005), other.amend(200, 1000, 20, 1))
	one.wantSums(10, 10000, 0, 10, 100000)
	other.ok(other.end())
	one.wantState(api.PPaused)
	one.ok(one.resume())
	other.wantState(api.PEnding)
	other.wantWork(at(2, 3), cancelMove(0, "c1"))
	one.wantWork(at(6, 3), newMove(0, "c3", 40, 1000))
	other.look()
}
